import Derived.Test.YtebkfkijlopmoaaHs23
/- The document's Same, where both are alike. -/
namespace Go.Proofs.Ytebkfkijlopmoaa
open Go.RowKit SessionMath
set_option maxRecDepth 100000
set_option linter.unusedSimpArgs false
set_option linter.unusedVariables false

set_option maxHeartbeats 4000000 in
theorem same_of (zs ys : List Sz) (zv yv : Value) (w : World) (hZ : SeatsV w zv zs) (hY : SeatsV w yv ys) (he : mes zs = mes ys) (hok : ∀ z ∈ zs, SzOk z) (hlen : zs.length ≤ 1000000) : Calls Try.prog 15 #[zv, yv] w fun e w' => e = .returned (.bool true) ∧ Below w.heap.size w w' := by
  have hl : ys.length = zs.length := by have := congrArg List.length he; simpa using this.symm
  have HE : Hid (mes zs = mes ys) := he
  have HZ : Hid (SeatsV w zv zs) := hZ
  have HY : Hid (SeatsV w yv ys) := hY
  obtain ⟨za, zc, rfl, -, -⟩ := hZ.1.shape
  obtain ⟨ya, yc, rfl, -, -⟩ := hY.1.shape
  rw [hl] at HY ⊢
  have HLY : Hid (ys.length = zs.length) := hl
  clear hZ hY he hl
  go_enter Try.func15, Try.ntmps15
  go_wp2
  go_loopg [5] zs.length (fun g s wr => ∃ i : Nat, i + g = zs.length ∧ s = .int .i64 (i : Int) ∧ Below w.heap.size w wr)
  case atStart => exact ⟨0, by simp, rfl, Below.refl _ _⟩
  case round =>
    obtain ⟨i, hig, rfl, hb⟩ := hrel
    by_cases hlt : i < zs.length
    · have hlti : (i : Int) < (zs.length : Int) := by omega
      have hz : zs[i]? = some zs[i] := List.getElem?_eq_getElem hlt
      have hy : ys[i]? = some (ys[i]'(by rw [HLY.out]; exact hlt)) := List.getElem?_eq_getElem _
      obtain ⟨z, hzz⟩ : ∃ z, z = zs[i] := ⟨_, rfl⟩
      obtain ⟨y, hyy⟩ : ∃ y, y = ys[i]'(by rw [HLY.out]; exact hlt) := ⟨_, rfl⟩
      rw [← hzz] at hz
      rw [← hyy] at hy
      clear hzz hyy
      obtain ⟨b, off, rfl, cz⟩ := rds_at HZ.out.1 hz
      obtain ⟨b2, off2, rfl, cy⟩ := rds_at HY.out.1 hy
      have hm : z.1 = y.1 := by
        have h1 := mes_at hz
        rw [HE.out, mes_at hy] at h1
        exact (Option.some.inj h1).symm
      have hzb := HZ.out.2 z (List.mem_of_getElem? hz)
      have hyb := HY.out.2 y (List.mem_of_getElem? hy)
      have hzo := (hok z (List.mem_of_getElem? hz)).2
      obtain ⟨c0, c1, c2⟩ := cz wr hb
      obtain ⟨d0, d1, d2⟩ := cy wr hb
      obtain ⟨⟨c, q, r⟩, sa, sn, sc⟩ := z
      obtain ⟨ym, ua, un, uc⟩ := y
      dsimp only at hm hzo
      subst hm
      have hl1 := hzb.len
      have hl2 := hyb.len
      dsimp only at *
      subst hl1
      subst hl2
      have e1 : ∀ k, (convert 26 9 (.slice sa r.length sc)).run Try.prog (wr.drewN k) = .ok (.string (Wi.str r)) (wr.drewN k) := fun k => Wi.str_of (hzb.below (below_drewN hb k)) hzo
      have e2 : ∀ k, (convert 26 9 (.slice ua r.length uc)).run Try.prog (wr.drewN k) = .ok (.string (Wi.str r)) (wr.drewN k) := fun k => Wi.str_of (hyb.below (below_drewN hb k)) hzo
      generalize Wi.str r = S at *
      clear HZ HY HE hz hy cz cy hok hzb hyb hzo
      go_wp2
      go_quiet (fail)
      have hb2 := below_drewN hb nq
      clear hb c0 c1 c2 d0 d1 d2 e1 e2
      generalize wr.drewN nq = w5 at *
      go_wp2
      go_roundg (gk - 1)
      case measure => omega
      case rel => exact ⟨i + 1, by omega, by go_num, hb2⟩
    · have hlti : ¬ (i : Int) < (zs.length : Int) := by omega
      clear HZ HY HE hok
      go_wp2
      go_ret
      exact ⟨rfl, hb⟩
end Go.Proofs.Ytebkfkijlopmoaa

