/- The contract of the document's own Crash. -/
import Derived.Test.YtcnljocgpoaepaaAppends
namespace Go.Proofs.Ytcnljocgpoaepaa
open Go.RowKit DiskMath
set_option maxRecDepth 100000
set_option linter.unusedSimpArgs false

/-- A slice of numbers, as it is read. -/
def Nv (w : World) (v : Value) (l : List Int) : Prop :=
  ∃ ao cap, v = .slice ao l.length cap ∧ (ao = none → cap = 0) ∧ ∀ (i : Nat) (c : Int), l[i]? = some c → ∃ b off, ao = some ⟨b, off, none⟩ ∧ w.cell? ⟨b, off + i, none⟩ = some (.int .i64 c)
theorem Nv.below {w w' : World} {v : Value} {l : List Int} (h : Nv w v l) (hb : Below w.heap.size w w') : Nv w' v l := by
  obtain ⟨ao, cap, e, h0, h2⟩ := h
  refine ⟨ao, cap, e, h0, fun i c hc => ?_⟩
  obtain ⟨b, off, r1, r2⟩ := h2 i c hc
  exact ⟨b, off, r1, (hb.cell (p := ⟨b, off + i, none⟩) (World.block_lt_of_cell? w _ r2)).trans r2⟩

theorem crash_cons (f : File) (l : Files) (cuts : List Int) (i : Nat) : crash (f :: l) (cuts.drop i) = crashOne f cuts[i]? :: crash l (cuts.drop (i + 1)) := by
  rw [crash, List.head?_drop, List.tail_drop]

set_option maxHeartbeats 2000000 in
theorem crash_of [Keep] (fs : Files) (cuts : List Int) (lv cv : Value) (w : World) (hF : Fv w lv fs) (hC : Nv w cv cuts) (hlen : fs.length ≤ 1000) (hs : ∀ f ∈ fs, f.safe ≤ f.data.length ∧ f.data.length ≤ 65536) :
    Calls Try.prog 31 #[lv, cv] w fun e w' => ∃ ov, e = .returned ov ∧ Fo w.heap.size w' ov (crash fs cuts) ∧ Below w.heap.size w w' := by
  obtain ⟨hf, ao, cap, rfl, h2⟩ := id hF
  obtain ⟨ac, cc, rfl, -, hcc⟩ := id hC
  obtain ⟨R, HR⟩ : ∃ R, Hid (R = crash fs cuts) := ⟨_, rfl⟩
  rw [← HR.out]
  have hF0 := Fo.none w hf
  clear hf
  have hb0 := (Below.refl w.heap.size w).alloc (Nat.le_refl _) (.cells #[] 46)
  go_enter Try.func31, Try.ntmps31
  go_wp2
  go_loopg [5, 6] fs.length (fun g s5 s6 wr => ∃ (i : Nat) (bl : Files), i + g = fs.length ∧ bl.length ≤ i ∧ s6 = .int .i64 (i : Int) ∧ Fo w.heap.size wr s5 bl ∧ Below w.heap.size w wr ∧ Hid (R = bl ++ crash (fs.drop i) (cuts.drop i)))
  case atStart => exact ⟨0, [], by simp, by simp, rfl, hF0, hb0, by show _ = _; rw [HR.out]; rfl⟩
  case round =>
    clear hF0 hb0 HR
    obtain ⟨i, bl, hi, hbl, rfl, hO, hbel, E⟩ := hrel
    obtain ⟨ai, ci, rfl⟩ := hO.shape
    by_cases hlt : i < fs.length
    · have hlti : (i : Int) < (fs.length : Int) := by omega
      have hx : fs[i]? = some fs[i] := List.getElem?_eq_getElem hlt
      obtain ⟨b, off, sg, rfl, c0, c1, c2, hBg, -⟩ := h2 i fs[i] hx
      have hsd := hs fs[i] (List.getElem_mem hlt)
      rw [drop_at hlt, crash_cons] at E
      generalize fs[i] = g at *
      have hcap : ∃ asg csg, sg = .slice asg g.data.length csg ∧ g.data.length ≤ csg ∧ csg ≤ maxLen := by obtain ⟨a, c, e1, e2, e3, _⟩ := id hBg; exact ⟨a, c, e1, e2, e3⟩
      obtain ⟨asg, csg, rfl, hc1, hc2⟩ := hcap
      have c0' := (hbel.cell (p := ⟨b, off + i * 3, none⟩) (World.block_lt_of_cell? w _ c0)).trans c0
      have c1' := (hbel.cell (p := ⟨b, off + i * 3 + 1, none⟩) (World.block_lt_of_cell? w _ c1)).trans c1
      have c2' := (hbel.cell (p := ⟨b, off + i * 3 + 2, none⟩) (World.block_lt_of_cell? w _ c2)).trans c2
      clear hx c0 c1 c2 h2 hF
      by_cases hic : i < cuts.length
      · have hici : (i : Int) < (cuts.length : Int) := by omega
        have hcx : cuts[i]? = some cuts[i] := List.getElem?_eq_getElem hic
        obtain ⟨bc, oc, rfl, k0⟩ := hcc i cuts[i] hcx
        have k0' := (hbel.cell (p := ⟨bc, oc + i, none⟩) (World.block_lt_of_cell? w _ k0)).trans k0
        rw [hcx] at E
        generalize cuts[i] = q at *
        clear hcx hcc hC k0
        have hbX := (Below.refl wr.heap.size wr).alloc (Nat.le_refl _) (.cells #[.string g.name, .slice asg g.data.length csg, .int .i64 (g.safe : Int)] 46)
        have k1 := (hbX.cell (p := ⟨bc, oc + i, none⟩) (World.block_lt_of_cell? wr _ k0')).trans k0'
        obtain ⟨g0, hg0⟩ : ∃ g0, g0 = gk := ⟨_, rfl⟩
        subst hg0
        obtain ⟨w0, hw0⟩ : ∃ x, x = wr := ⟨_, rfl⟩
        subst hw0
        go_wp2
        go_loopg [8, 9] g.data.length (fun gg s8 s9 wq => ∃ c m : Nat, c + gg = g.data.length ∧ Hid (m = g.safe + c) ∧ s9 = .int .i64 (c : Int) ∧ s8 = .int .i64 (m : Int) ∧ m ≤ g.data.length ∧ c ≤ q.toNat ∧ wq = w0.alloc (.cells #[.string g.name, .slice asg g.data.length csg, .int .i64 (g.safe : Int)] 46))
        case atStart => exact ⟨0, g.safe, by simp, rfl, rfl, rfl, by omega, by omega, rfl⟩
        case round =>
          obtain ⟨c, m, hcg, Hm, rfl, rfl, hcl, hcq, rfl⟩ := hrel
          by_cases hgo : (c : Int) < q ∧ m < g.data.length
          · obtain ⟨y1, y2⟩ := hgo
            have y2i : (m : Int) < (g.data.length : Int) := by omega
            have hcl2 : c < g.data.length := by
              have hm := Hm.out
              omega
            have Hm' : Hid (m + 1 = g.safe + (c + 1)) := by show _ = _; rw [Hm.out]; omega
            go_wp2
            go_roundg (gk - 1)
            case measure => omega
            case rel => exact ⟨c + 1, m + 1, by omega, Hm', by go_num, by go_num, by omega, by omega, rfl⟩
          · have hleft : Hid (left g (some q) = m) := by
              have hm := Hm.out
              show _ = _
              unfold left
              simp only
              omega
            by_cases y1 : (c : Int) < q
            · have y2 : ¬ (m : Int) < (g.data.length : Int) := by omega
              clear hgo
              have hE : Hid (R = (bl ++ [⟨g.name, g.data.take m, m⟩]) ++ crash (fs.drop (i + 1)) (cuts.drop (i + 1))) := by
                show _ = _
                rw [E.out, show crashOne g (some q) = ⟨g.name, g.data.take m, m⟩ by unfold crashOne; rw [hleft.out]]
                simp
              have hml : m ≤ g.data.length := by omega
              have hmc : (m : Int) ≤ (csg : Int) := by omega
              have hmc2 : m ≤ csg := by omega
              have hcm : (csg : Int) ≤ 9223372036854775807 := by unfold maxLen at hc2; omega
              have hbY := (Below.refl w0.heap.size w0).alloc (Nat.le_refl _) (.cells #[.string g.name, .slice asg m csg, .int .i64 (m : Int)] 46)
              have hszY : (w0.alloc (.cells #[.string g.name, .slice asg m csg, .int .i64 (m : Int)] 46)).heap.size = w0.heap.size + 1 := by simp
              have hOY := hO.below hbY
              have hbwY := hbel.trans (hbY.mono hbel.size)
              have hBm := Bs.took hBg hml
              have hkg := apart (d := (⟨g.name, g.data.take m, m⟩ : File).data) hBm (Nat.le_refl _) hOY hbwY.size
              have hBY : Bs (w0.alloc (.cells #[.string g.name, .slice asg m csg, .int .i64 (m : Int)] 46)).heap.size (w0.alloc (.cells #[.string g.name, .slice asg m csg, .int .i64 (m : Int)] 46)) (.slice asg m csg) (⟨g.name, g.data.take m, m⟩ : File).data := (hBm.below hbwY).mono hbwY.size
              have hbl1 : bl.length ≤ 1000000 := by omega
              clear hO hBm E
              go_wp2_with (at_builtin; refine wp_push_file rfl _ _ rfl w.heap.size _ bl ⟨g.name, g.data.take m, m⟩ _ hOY hbwY.size hbl1 hBY hkg rfl (by rw [hszY]; rfl) ?_)
              intro ov8 w8 hO8 hb8
              go_wp2
              go_roundg (g0 - 1)
              case measure => omega
              case rel => exact ⟨i + 1, bl ++ [⟨g.name, g.data.take m, m⟩], by omega, by simp; omega, by go_num, hO8, hbwY.trans hb8, hE⟩
            · clear hgo
              have hE : Hid (R = (bl ++ [⟨g.name, g.data.take m, m⟩]) ++ crash (fs.drop (i + 1)) (cuts.drop (i + 1))) := by
                show _ = _
                rw [E.out, show crashOne g (some q) = ⟨g.name, g.data.take m, m⟩ by unfold crashOne; rw [hleft.out]]
                simp
              have hml : m ≤ g.data.length := by omega
              have hmc : (m : Int) ≤ (csg : Int) := by omega
              have hmc2 : m ≤ csg := by omega
              have hcm : (csg : Int) ≤ 9223372036854775807 := by unfold maxLen at hc2; omega
              have hbY := (Below.refl w0.heap.size w0).alloc (Nat.le_refl _) (.cells #[.string g.name, .slice asg m csg, .int .i64 (m : Int)] 46)
              have hszY : (w0.alloc (.cells #[.string g.name, .slice asg m csg, .int .i64 (m : Int)] 46)).heap.size = w0.heap.size + 1 := by simp
              have hOY := hO.below hbY
              have hbwY := hbel.trans (hbY.mono hbel.size)
              have hBm := Bs.took hBg hml
              have hkg := apart (d := (⟨g.name, g.data.take m, m⟩ : File).data) hBm (Nat.le_refl _) hOY hbwY.size
              have hBY : Bs (w0.alloc (.cells #[.string g.name, .slice asg m csg, .int .i64 (m : Int)] 46)).heap.size (w0.alloc (.cells #[.string g.name, .slice asg m csg, .int .i64 (m : Int)] 46)) (.slice asg m csg) (⟨g.name, g.data.take m, m⟩ : File).data := (hBm.below hbwY).mono hbwY.size
              have hbl1 : bl.length ≤ 1000000 := by omega
              clear hO hBm E
              go_wp2_with (at_builtin; refine wp_push_file rfl _ _ rfl w.heap.size _ bl ⟨g.name, g.data.take m, m⟩ _ hOY hbwY.size hbl1 hBY hkg rfl (by rw [hszY]; rfl) ?_)
              intro ov8 w8 hO8 hb8
              go_wp2
              go_roundg (g0 - 1)
              case measure => omega
              case rel => exact ⟨i + 1, bl ++ [⟨g.name, g.data.take m, m⟩], by omega, by simp; omega, by go_num, hO8, hbwY.trans hb8, hE⟩
      · have hici : ¬ (i : Int) < (cuts.length : Int) := by omega
        have hcx : cuts[i]? = none := List.getElem?_eq_none (by omega)
        rw [hcx] at E
        obtain ⟨m, hm⟩ : ∃ m, m = g.safe := ⟨_, rfl⟩
        have hmH : Hid (m = g.safe) := hm
        rw [← hm] at c2'
        have hml0 : m ≤ g.data.length := by omega
        clear hcx hcc hC hm
        have hE : Hid (R = (bl ++ [⟨g.name, g.data.take m, m⟩]) ++ crash (fs.drop (i + 1)) (cuts.drop (i + 1))) := by
          show _ = _
          rw [E.out, show crashOne g none = ⟨g.name, g.data.take m, m⟩ by unfold crashOne left; rw [hmH.out]]
          simp
        have hml : m ≤ g.data.length := by omega
        have hmc : (m : Int) ≤ (csg : Int) := by omega
        have hmc2 : m ≤ csg := by omega
        have hcm : (csg : Int) ≤ 9223372036854775807 := by unfold maxLen at hc2; omega
        have hbY := (Below.refl wr.heap.size wr).alloc (Nat.le_refl _) (.cells #[.string g.name, .slice asg m csg, .int .i64 (m : Int)] 46)
        have hszY : (wr.alloc (.cells #[.string g.name, .slice asg m csg, .int .i64 (m : Int)] 46)).heap.size = wr.heap.size + 1 := by simp
        have hOY := hO.below hbY
        have hbwY := hbel.trans (hbY.mono hbel.size)
        have hBm := Bs.took hBg hml
        have hkg := apart (d := (⟨g.name, g.data.take m, m⟩ : File).data) hBm (Nat.le_refl _) hOY hbwY.size
        have hBY : Bs (wr.alloc (.cells #[.string g.name, .slice asg m csg, .int .i64 (m : Int)] 46)).heap.size (wr.alloc (.cells #[.string g.name, .slice asg m csg, .int .i64 (m : Int)] 46)) (.slice asg m csg) (⟨g.name, g.data.take m, m⟩ : File).data := (hBm.below hbwY).mono hbwY.size
        have hbl1 : bl.length ≤ 1000000 := by omega
        clear hO hBm E
        go_wp2_with (at_builtin; refine wp_push_file rfl _ _ rfl w.heap.size _ bl ⟨g.name, g.data.take m, m⟩ _ hOY hbwY.size hbl1 hBY hkg rfl (by rw [hszY]; rfl) ?_)
        intro ov8 w8 hO8 hb8
        go_wp2
        go_roundg (gk - 1)
        case measure => omega
        case rel => exact ⟨i + 1, bl ++ [⟨g.name, g.data.take m, m⟩], by omega, by simp; omega, by go_num, hO8, hbwY.trans hb8, hE⟩
    · have hlti : ¬ (i : Int) < (fs.length : Int) := by omega
      have E' : Hid (R = bl) := by show _ = _; rw [E.out, List.drop_eq_nil_of_le (by omega)]; simp [crash]
      clear h2 hF
      go_wp2
      go_ret
      rw [E'.out]
      exact ⟨_, rfl, hO, hbel⟩
end Go.Proofs.Ytcnljocgpoaepaa
