import Derived.Test.YtebkfkijlopmoaaHo27
import Derived.Test.YtebkfkijlopmoaaHo28
/- The program's withOwnReplies. -/
namespace Go.Proofs.Ytebkfkijlopmoaa
open Go.RowKit SessionMath
set_option maxRecDepth 100000
set_option linter.unusedSimpArgs false
set_option linter.unusedVariables false

theorem set_same {α : Type} {l : List α} {i : Nat} {x : α} (h : l[i]? = some x) : l.set i x = l := by
  obtain ⟨hi, rfl⟩ := List.getElem?_eq_some_iff.1 h
  exact List.set_getElem_self hi
theorem mem_take_set {α : Type} {l : List α} {i : Nat} {x y : α} (h : y ∈ (l.set i x).take (i + 1)) : y ∈ l.take i ∨ y = x := by
  obtain ⟨k, hk⟩ := List.getElem?_of_mem h
  rw [List.getElem?_take] at hk
  split at hk
  · rename_i h1
    rw [List.getElem?_set] at hk
    split at hk
    · split at hk
      · exact .inr (Option.some.inj hk).symm
      · cases hk
    · rename_i h2
      refine .inl (List.mem_of_getElem? (i := k) ?_)
      rw [List.getElem?_take, if_pos (by omega)]
      exact hk
  · cases hk
theorem drop_set {α : Type} {l : List α} {i : Nat} {x : α} : (l.set i x).drop (i + 1) = l.drop (i + 1) := by
  rw [List.drop_set_of_lt (Nat.lt_succ_self i)]

/-- Between two rounds: replies ahead are one's own, those behind as they came in. -/
def OwnI (n : Nat) (w : World) (v : Value) (zs cur : List Sz) (i : Nat) : Prop :=
  Ow seatE 49 n w v cur ∧ cur.length = zs.length ∧ mes cur = mes zs ∧ (∀ z ∈ cur.take i, CpR w z) ∧ ∀ z ∈ cur.drop i, Wi.Bs n w (sv z) z.1.rp
/-- What withOwnReplies leaves. -/
def OwnT (n : Nat) (zs : List Sz) (g cap : Nat) (e : Ending) (w' : World) : Prop := ∃ cur, e = .returned (.slice (some ⟨g, 0, none⟩) zs.length cap) ∧ Ow seatE 49 n w' (.slice (some ⟨g, 0, none⟩) zs.length cap) cur ∧ mes cur = mes zs ∧ (∀ z ∈ cur, CpR w' z)
set_option maxHeartbeats 4000000 in
theorem own_of (n : Nat) (zs : List Sz) (g cap : Nat) (w : World) (hn : n ≤ w.heap.size) (hO : Ow seatE 49 n w (.slice (some ⟨g, 0, none⟩) zs.length cap) zs) (hD : ∀ z ∈ zs, Wi.Bs n w (sv z) z.1.rp) (hlen : zs.length ≤ 1000) (hrl : ∀ z ∈ zs, z.1.rp.length ≤ 1000000) : Calls Try.prog 25 #[.slice (some ⟨g, 0, none⟩) zs.length cap] w fun e w' => OwnT n zs g cap e w' ∧ Below n w w' := by
  obtain ⟨T, HT⟩ : ∃ T, Hid (T = OwnT n zs g cap) := ⟨_, rfl⟩
  rw [← HT.out]
  have HR : Hid (∀ m ∈ mes zs, m.rp.length ≤ 1000000) := fun m hm => by
    obtain ⟨z, hz, rfl⟩ := List.mem_map.1 hm
    exact hrl z hz
  have hgn : n ≤ g := hO.2 g rfl
  have hI0 : OwnI n w (.slice (some ⟨g, 0, none⟩) zs.length cap) zs zs 0 := ⟨hO, rfl, rfl, by simp, by simpa using hD⟩
  clear hO hD hrl
  go_enter Try.func25, Try.ntmps25
  go_wp2
  go_loopg [7] zs.length (fun gg s wr => ∃ (i : Nat) (cur : List Sz), i + gg = zs.length ∧ s = .int .i64 (i : Int) ∧ OwnI n wr (.slice (some ⟨g, 0, none⟩) zs.length cap) zs cur i ∧ Below n w wr)
  case atStart => exact ⟨0, zs, by simp, rfl, hI0, Below.refl _ _⟩
  case round =>
    obtain ⟨i, cur, hig, rfl, hI, hb⟩ := hrel
    clear hI0
    by_cases hlt : i < zs.length
    · have hlti : (i : Int) < (zs.length : Int) := by omega
      obtain ⟨hO, hcl, hcm, hcA, hcB⟩ := hI
      have hz : cur[i]? = some (cur[i]'(by omega)) := List.getElem?_eq_getElem _
      obtain ⟨z, hzz⟩ : ∃ z, z = cur[i]'(by omega) := ⟨_, rfl⟩
      rw [← hzz] at hz
      clear hzz
      have HCL : Hid (cur.length = zs.length) := hcl
      have HCM : Hid (mes cur = mes zs) := hcm
      have HCA : Hid (∀ z ∈ cur.take i, CpR wr z) := hcA
      have HCB : Hid (∀ z ∈ cur.drop i, Wi.Bs n wr (sv z) z.1.rp) := hcB
      have HO : Hid (Ow seatE 49 n wr (.slice (some ⟨g, 0, none⟩) zs.length cap) cur) := hO
      have HZ : Hid (cur[i]? = some z) := hz
      have hzB := hcB z (List.mem_of_getElem? (i := 0) (by rw [List.getElem?_drop]; exact hz))
      have hzr : z.1.rp.length ≤ 1000000 := HR.out z.1 (by rw [← hcm]; exact List.mem_of_getElem? (mes_at hz))
      obtain ⟨b', off', e', cz⟩ := rds_at hO.1.rd hz
      cases e'
      obtain ⟨c0, c1, c2⟩ := cz wr (Below.refl _ _)
      rw [Nat.zero_add] at c0 c1 c2
      have hnw : n ≤ wr.heap.size := Nat.le_trans hn hb.size
      obtain ⟨hsz, hbb, cl⟩ := st_box wr z
      have hzl : z.2.2.1 = z.1.rp.length := by obtain ⟨ao, cp, e, _⟩ := hzB; exact (Value.slice.inj e).2.1
      obtain ⟨⟨zc, zq, zr⟩, sa, sn, sc⟩ := z
      dsimp only [ec] at *
      subst hzl
      have kcl := Wi.clone_of n zr (.slice sa zr.length sc) (wr.alloc (.cells #[.int .i64 zc, .int .u64 (zq : Int), .slice sa zr.length sc] 49)) (hzB.below (hbb.mono hnw)) (Nat.le_trans hnw hbb.size) (by omega)
      obtain ⟨x0, x1, x2⟩ := cl _ (Below.refl _ _)
      clear hz hcm hcA hcB hO hzB cz cl hcl
      go_wp2_with fail
      refine kcl.mono ?_
      rintro e w1 ⟨v1, rfl, hO1, hb1⟩
      have hbr1 : Below wr.heap.size wr w1 := hbb.trans (hb1.mono hbb.size)
      obtain ⟨va, vc, rfl⟩ := hO1.shape
      have hOr1 := HO.out.below hbr1
      obtain ⟨cs, hgb⟩ := hOr1.1.block (k := g) rfl
      have hfz : w1.frozen? ⟨g, i * 3 + 2, none⟩ = false := frozen_of hgb _
      have hset := Rk.setAt (x' := ((⟨zc, zq, zr⟩ : Ms), va, zr.length, vc)) (u := .slice va zr.length vc) hOr1.1 HZ.out (j := 2) (by decide) rfl
      have hbf : Below n w (w1.setCell ⟨g, i * 3 + 2, none⟩ (.slice va zr.length vc)) := (hb.trans (hbr1.mono hnw)).setCell (p := ⟨g, i * 3 + 2, none⟩) hgn _
      have hbrf : Below n wr (w1.setCell ⟨g, i * 3 + 2, none⟩ (.slice va zr.length vc)) := (hbr1.mono hnw).setCell (p := ⟨g, i * 3 + 2, none⟩) hgn _
      have HI : Hid (OwnI n (w1.setCell ⟨g, i * 3 + 2, none⟩ (.slice va zr.length vc)) (.slice (some ⟨g, 0, none⟩) zs.length cap) zs (cur.set i (⟨zc, zq, zr⟩, va, zr.length, vc)) (i + 1)) := by
        refine ⟨⟨hset, hOr1.2⟩, by rw [List.length_set]; exact HCL.out, ?_, fun y hy => ?_, fun y hy => ?_⟩
        · rw [← HCM.out]
          show List.map _ _ = _
          rw [List.map_set]
          have h9 := mes_at HZ.out
          exact set_same h9
        · rcases mem_take_set hy with hy | rfl
          · exact ((HCA.out y hy).below hbr1).far hgb (by decide) _
          · exact CpR.far (z := (⟨zc, zq, zr⟩, va, zr.length, vc)) (hO1.mono (Nat.zero_le _)) hgb (by decide) _
        · rw [drop_set] at hy
          exact (HCB.out y (List.mem_of_mem_drop (i := 1) (by rw [List.drop_drop]; exact hy))).below hbrf
      have c2' : w1.cell? ⟨g, i * 3 + 2, none⟩ = some (.slice sa zr.length sc) := (hbr1.cell (p := ⟨g, i * 3 + 2, none⟩) (World.block_lt_of_cell? wr _ c2)).trans c2
      clear hset hgb hOr1 hO1 kcl c0 c1 c2 x0 x1 x2 HCA HCB HO HCL HCM HZ
      go_wp2
      generalize w1.setCell ⟨g, i * 3 + 2, none⟩ (.slice va zr.length vc) = w2 at *
      go_roundg (gk - 1)
      case measure => omega
      case rel => exact ⟨i + 1, _, by omega, by go_num, HI.out, hbf⟩
    · have hlti : ¬ (i : Int) < (zs.length : Int) := by omega
      obtain ⟨hO, hcl, hcm, hcA, hcB⟩ := hI
      rw [List.take_of_length_le (by omega)] at hcA
      clear hcB HR
      have HF : Hid (T (.returned (.slice (some ⟨g, 0, none⟩) zs.length cap)) wr) := by show T _ _; rw [HT.out]; exact ⟨cur, rfl, hO, hcm, hcA⟩
      clear hO hcm hcA hcl
      go_wp2
      go_ret
      exact ⟨HF.out, hb⟩
end Go.Proofs.Ytebkfkijlopmoaa

