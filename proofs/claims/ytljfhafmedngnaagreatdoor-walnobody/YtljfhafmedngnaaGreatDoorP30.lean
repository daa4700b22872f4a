import Derived.Test.YtljfhafmedngnaaGreatDoorP29
import Derived.Test.YtljfhafmedngnaaGreatDoorP26
import Derived.Deep.RegionHeld3
/- The contract of the document's own Crash. -/
namespace Go.Proofs.YtljfhafmedngnaaGreatDoor
open Go.RowKit DiskMath
set_option maxRecDepth 100000
set_option linter.unusedSimpArgs false

/-- A slice of numbers, as it is read. -/
def Nv (w : World) (v : Value) (l : List Int) : Prop :=
  ∃ ao cap, v = .slice ao l.length cap ∧ (ao = none → cap = 0) ∧ ∀ (i : Nat) (c : Int), l[i]? = some c → ∃ b off, ao = some ⟨b, off, none⟩ ∧ w.cell? ⟨b, off + i, none⟩ = some (.int .i64 c)
theorem Nv.below {w w' : World} {v : Value} {l : List Int} (h : Nv w v l) (hb : Below w.heap.size w w') : Nv w' v l := by
  obtain ⟨ao, cap, e, h0, h2⟩ := h
  refine ⟨ao, cap, e, h0, fun i c hc => ?_⟩
  obtain ⟨b, off, r1, r2⟩ := h2 i c hc
  exact ⟨b, off, r1, (hb.cell (p := ⟨b, off + i, none⟩) (World.block_lt_of_cell? w _ r2)).trans r2⟩

theorem crash_cons (f : File) (l : Files) (cuts : List Int) (i : Nat) : crash (f :: l) (cuts.drop i) = crashOne f cuts[i]? :: crash l (cuts.drop (i + 1)) := by
  rw [crash, List.head?_drop, List.tail_drop]

set_option maxHeartbeats 2000000 in
theorem crash_of [Keep] (fs : Files) (cuts : List Int) (lv cv : Value) (w : World) (hF : Fv w lv fs) (hC : Nv w cv cuts) (hlen : fs.length ≤ 1000) (hs : ∀ f ∈ fs, f.safe ≤ f.data.length ∧ f.data.length ≤ 65536) :
    Calls Tryz.prog 19 #[lv, cv] w fun e w' => ∃ ov, e = .returned ov ∧ Fo w.heap.size w' ov (crash fs cuts) ∧ Below w.heap.size w w' := by
  obtain ⟨hf, ao, cap, rfl, h2⟩ := id hF
  obtain ⟨ac, cc, rfl, -, hcc⟩ := id hC
  obtain ⟨R, HR⟩ : ∃ R, Hid (R = crash fs cuts) := ⟨_, rfl⟩
  rw [← HR.out]
  have hF0 := Fo.none w hf
  clear hf
  have hb0 := (Below.refl w.heap.size w).alloc (Nat.le_refl _) (.cells #[] 54)
  go_enter Tryz.func19, Tryz.ntmps19
  go_wp2
  go_loopg [5, 6] fs.length (fun g s5 s6 wr => ∃ (i : Nat) (bl : Files), i + g = fs.length ∧ bl.length ≤ i ∧ s6 = .int .i64 (i : Int) ∧ Fo w.heap.size wr s5 bl ∧ Below w.heap.size w wr ∧ Hid (R = bl ++ crash (fs.drop i) (cuts.drop i)))
  case atStart => exact ⟨0, [], by simp, by simp, rfl, hF0, hb0, by show _ = _; rw [HR.out]; rfl⟩
  case round =>
    clear hF0 hb0 HR
    obtain ⟨i, bl, hi, hbl, rfl, hO, hbel, E⟩ := hrel
    obtain ⟨ai, ci, rfl⟩ := hO.shape
    by_cases hlt : i < fs.length
    · have hlti : (i : Int) < (fs.length : Int) := by omega
      have hx : fs[i]? = some fs[i] := List.getElem?_eq_getElem hlt
      obtain ⟨b, off, sg, rfl, c0, c1, c2, hBg, -⟩ := h2 i fs[i] hx
      have hsd := hs fs[i] (List.getElem_mem hlt)
      rw [drop_at hlt, crash_cons] at E
      generalize fs[i] = g at *
      have hcap : ∃ asg csg, sg = .slice asg g.data.length csg ∧ g.data.length ≤ csg ∧ csg ≤ maxLen := by obtain ⟨a, c, e1, e2, e3, _⟩ := id hBg; exact ⟨a, c, e1, e2, e3⟩
      obtain ⟨asg, csg, rfl, hc1, hc2⟩ := hcap
      have c0' := (hbel.cell (p := ⟨b, off + i * 3, none⟩) (World.block_lt_of_cell? w _ c0)).trans c0
      have c1' := (hbel.cell (p := ⟨b, off + i * 3 + 1, none⟩) (World.block_lt_of_cell? w _ c1)).trans c1
      have c2' := (hbel.cell (p := ⟨b, off + i * 3 + 2, none⟩) (World.block_lt_of_cell? w _ c2)).trans c2
      clear hx c0 c1 c2 h2 hF
      by_cases hic : i < cuts.length
      · have hici : (i : Int) < (cuts.length : Int) := by omega
        have hcx : cuts[i]? = some cuts[i] := List.getElem?_eq_getElem hic
        obtain ⟨bc, oc, rfl, k0⟩ := hcc i cuts[i] hcx
        have k0' := (hbel.cell (p := ⟨bc, oc + i, none⟩) (World.block_lt_of_cell? w _ k0)).trans k0
        rw [hcx] at E
        generalize cuts[i] = q at *
        clear hcx hcc hC k0
        have hbX := (Below.refl wr.heap.size wr).alloc (Nat.le_refl _) (.cells #[.string g.name, .slice asg g.data.length csg, .int .i64 (g.safe : Int)] 54)
        have k1 := (hbX.cell (p := ⟨bc, oc + i, none⟩) (World.block_lt_of_cell? wr _ k0')).trans k0'
        obtain ⟨g0, hg0⟩ : ∃ g0, g0 = gk := ⟨_, rfl⟩
        subst hg0
        obtain ⟨w0, hw0⟩ : ∃ x, x = wr := ⟨_, rfl⟩
        subst hw0
        go_wp2
        go_loopg [8, 9] g.data.length (fun gg s8 s9 wq => ∃ c m : Nat, c + gg = g.data.length ∧ Hid (m = g.safe + c) ∧ s9 = .int .i64 (c : Int) ∧ s8 = .int .i64 (m : Int) ∧ m ≤ g.data.length ∧ c ≤ q.toNat ∧ wq = w0.alloc (.cells #[.string g.name, .slice asg g.data.length csg, .int .i64 (g.safe : Int)] 54))
        case atStart => exact ⟨0, g.safe, by simp, rfl, rfl, rfl, by omega, by omega, rfl⟩
        case round =>
          obtain ⟨c, m, hcg, Hm, rfl, rfl, hcl, hcq, rfl⟩ := hrel
          by_cases hgo : (c : Int) < q ∧ m < g.data.length
          · obtain ⟨y1, y2⟩ := hgo
            have y2i : (m : Int) < (g.data.length : Int) := by omega
            have hcl2 : c < g.data.length := by
              have hm := Hm.out
              omega
            have Hm' : Hid (m + 1 = g.safe + (c + 1)) := by show _ = _; rw [Hm.out]; omega
            go_wp2
            go_roundg (gk - 1)
            case measure => omega
            case rel => exact ⟨c + 1, m + 1, by omega, Hm', by go_num, by go_num, by omega, by omega, rfl⟩
          · have hleft : Hid (left g (some q) = m) := by
              have hm := Hm.out
              show _ = _
              unfold left
              simp only
              omega
            by_cases y1 : (c : Int) < q
            · have y2 : ¬ (m : Int) < (g.data.length : Int) := by omega
              clear hgo
              have hE : Hid (R = (bl ++ [⟨g.name, g.data.take m, m⟩]) ++ crash (fs.drop (i + 1)) (cuts.drop (i + 1))) := by
                show _ = _
                rw [E.out, show crashOne g (some q) = ⟨g.name, g.data.take m, m⟩ by unfold crashOne; rw [hleft.out]]
                simp
              have hml : m ≤ g.data.length := by omega
              have hmc : (m : Int) ≤ (csg : Int) := by omega
              have hmc2 : m ≤ csg := by omega
              have hcm : (csg : Int) ≤ 9223372036854775807 := by unfold maxLen at hc2; omega
              have hbY := (Below.refl w0.heap.size w0).alloc (Nat.le_refl _) (.cells #[.string g.name, .slice asg m csg, .int .i64 (m : Int)] 54)
              have hszY : (w0.alloc (.cells #[.string g.name, .slice asg m csg, .int .i64 (m : Int)] 54)).heap.size = w0.heap.size + 1 := by simp
              have hOY := hO.below hbY
              have hbwY := hbel.trans (hbY.mono hbel.size)
              have hBm := Bs.took hBg hml
              have hkg := apart (d := (⟨g.name, g.data.take m, m⟩ : File).data) hBm (Nat.le_refl _) hOY hbwY.size
              have hBY : Bs (w0.alloc (.cells #[.string g.name, .slice asg m csg, .int .i64 (m : Int)] 54)).heap.size (w0.alloc (.cells #[.string g.name, .slice asg m csg, .int .i64 (m : Int)] 54)) (.slice asg m csg) (⟨g.name, g.data.take m, m⟩ : File).data := (hBm.below hbwY).mono hbwY.size
              have hbl1 : bl.length ≤ 1000000 := by omega
              clear hO hBm E
              go_wp2_with (at_builtin; refine wp_push_file rfl _ _ rfl w.heap.size _ bl ⟨g.name, g.data.take m, m⟩ _ hOY hbwY.size hbl1 hBY hkg rfl (by rw [hszY]; rfl) ?_)
              intro ov8 w8 hO8 hb8
              go_wp2
              go_roundg (g0 - 1)
              case measure => omega
              case rel => exact ⟨i + 1, bl ++ [⟨g.name, g.data.take m, m⟩], by omega, by simp; omega, by go_num, hO8, hbwY.trans hb8, hE⟩
            · clear hgo
              have hE : Hid (R = (bl ++ [⟨g.name, g.data.take m, m⟩]) ++ crash (fs.drop (i + 1)) (cuts.drop (i + 1))) := by
                show _ = _
                rw [E.out, show crashOne g (some q) = ⟨g.name, g.data.take m, m⟩ by unfold crashOne; rw [hleft.out]]
                simp
              have hml : m ≤ g.data.length := by omega
              have hmc : (m : Int) ≤ (csg : Int) := by omega
              have hmc2 : m ≤ csg := by omega
              have hcm : (csg : Int) ≤ 9223372036854775807 := by unfold maxLen at hc2; omega
              have hbY := (Below.refl w0.heap.size w0).alloc (Nat.le_refl _) (.cells #[.string g.name, .slice asg m csg, .int .i64 (m : Int)] 54)
              have hszY : (w0.alloc (.cells #[.string g.name, .slice asg m csg, .int .i64 (m : Int)] 54)).heap.size = w0.heap.size + 1 := by simp
              have hOY := hO.below hbY
              have hbwY := hbel.trans (hbY.mono hbel.size)
              have hBm := Bs.took hBg hml
              have hkg := apart (d := (⟨g.name, g.data.take m, m⟩ : File).data) hBm (Nat.le_refl _) hOY hbwY.size
              have hBY : Bs (w0.alloc (.cells #[.string g.name, .slice asg m csg, .int .i64 (m : Int)] 54)).heap.size (w0.alloc (.cells #[.string g.name, .slice asg m csg, .int .i64 (m : Int)] 54)) (.slice asg m csg) (⟨g.name, g.data.take m, m⟩ : File).data := (hBm.below hbwY).mono hbwY.size
              have hbl1 : bl.length ≤ 1000000 := by omega
              clear hO hBm E
              go_wp2_with (at_builtin; refine wp_push_file rfl _ _ rfl w.heap.size _ bl ⟨g.name, g.data.take m, m⟩ _ hOY hbwY.size hbl1 hBY hkg rfl (by rw [hszY]; rfl) ?_)
              intro ov8 w8 hO8 hb8
              go_wp2
              go_roundg (g0 - 1)
              case measure => omega
              case rel => exact ⟨i + 1, bl ++ [⟨g.name, g.data.take m, m⟩], by omega, by simp; omega, by go_num, hO8, hbwY.trans hb8, hE⟩
      · have hici : ¬ (i : Int) < (cuts.length : Int) := by omega
        have hcx : cuts[i]? = none := List.getElem?_eq_none (by omega)
        rw [hcx] at E
        obtain ⟨m, hm⟩ : ∃ m, m = g.safe := ⟨_, rfl⟩
        have hmH : Hid (m = g.safe) := hm
        rw [← hm] at c2'
        have hml0 : m ≤ g.data.length := by omega
        clear hcx hcc hC hm
        have hE : Hid (R = (bl ++ [⟨g.name, g.data.take m, m⟩]) ++ crash (fs.drop (i + 1)) (cuts.drop (i + 1))) := by
          show _ = _
          rw [E.out, show crashOne g none = ⟨g.name, g.data.take m, m⟩ by unfold crashOne left; rw [hmH.out]]
          simp
        have hml : m ≤ g.data.length := by omega
        have hmc : (m : Int) ≤ (csg : Int) := by omega
        have hmc2 : m ≤ csg := by omega
        have hcm : (csg : Int) ≤ 9223372036854775807 := by unfold maxLen at hc2; omega
        have hbY := (Below.refl wr.heap.size wr).alloc (Nat.le_refl _) (.cells #[.string g.name, .slice asg m csg, .int .i64 (m : Int)] 54)
        have hszY : (wr.alloc (.cells #[.string g.name, .slice asg m csg, .int .i64 (m : Int)] 54)).heap.size = wr.heap.size + 1 := by simp
        have hOY := hO.below hbY
        have hbwY := hbel.trans (hbY.mono hbel.size)
        have hBm := Bs.took hBg hml
        have hkg := apart (d := (⟨g.name, g.data.take m, m⟩ : File).data) hBm (Nat.le_refl _) hOY hbwY.size
        have hBY : Bs (wr.alloc (.cells #[.string g.name, .slice asg m csg, .int .i64 (m : Int)] 54)).heap.size (wr.alloc (.cells #[.string g.name, .slice asg m csg, .int .i64 (m : Int)] 54)) (.slice asg m csg) (⟨g.name, g.data.take m, m⟩ : File).data := (hBm.below hbwY).mono hbwY.size
        have hbl1 : bl.length ≤ 1000000 := by omega
        clear hO hBm E
        go_wp2_with (at_builtin; refine wp_push_file rfl _ _ rfl w.heap.size _ bl ⟨g.name, g.data.take m, m⟩ _ hOY hbwY.size hbl1 hBY hkg rfl (by rw [hszY]; rfl) ?_)
        intro ov8 w8 hO8 hb8
        go_wp2
        go_roundg (gk - 1)
        case measure => omega
        case rel => exact ⟨i + 1, bl ++ [⟨g.name, g.data.take m, m⟩], by omega, by simp; omega, by go_num, hO8, hbwY.trans hb8, hE⟩
    · have hlti : ¬ (i : Int) < (fs.length : Int) := by omega
      have E' : Hid (R = bl) := by show _ = _; rw [E.out, List.drop_eq_nil_of_le (by omega)]; simp [crash]
      clear h2 hF
      go_wp2
      go_ret
      rw [E'.out]
      exact ⟨_, rfl, hO, hbel⟩
end Go.Proofs.YtljfhafmedngnaaGreatDoor

/- The contract of the document's own Same, where both are the same files: true; nothing turns but the count of draws. -/
namespace Go.Proofs.YtljfhafmedngnaaGreatDoor
open Go.RowKit DiskMath
set_option maxRecDepth 100000
set_option linter.unusedSimpArgs false

set_option maxHeartbeats 1000000 in
theorem sameF_of [Keep] (fs : Files) (av bv : Value) (w : World) (hA : Fv w av fs) (hB : Fv w bv fs) (hb : ∀ f ∈ fs, ∀ c ∈ f.data, c < 256) (hlen : fs.length ≤ 1000) :
    Calls Tryz.prog 62 #[av, bv] w fun e w' => e = .returned (.bool true) ∧ Below w.heap.size w w' := by
  obtain ⟨-, aa, ca, rfl, h1⟩ := hA
  obtain ⟨-, ab, cb, rfl, h2⟩ := hB
  go_enter Tryz.func62, Tryz.ntmps62
  go_wp2
  go_loopg [5] fs.length (fun g s5 wr => ∃ i : Nat, i + g = fs.length ∧ s5 = .int .i64 (i : Int) ∧ ∃ k, wr = w.drewN k)
  case atStart => exact ⟨0, by simp, rfl, 0, rfl⟩
  case round =>
    obtain ⟨i, hil, rfl, kd, rfl⟩ := hrel
    by_cases hlt : i < fs.length
    · have hlti : (i : Int) < (fs.length : Int) := by omega
      have hx : fs[i]? = some fs[i] := List.getElem?_eq_getElem hlt
      obtain ⟨ba, oa, sa, rfl, a0, a1, a2, hBa, -⟩ := h1 i fs[i] hx
      obtain ⟨bb, ob, sb, rfl, b0, b1, b2, hBb, -⟩ := h2 i fs[i] hx
      have hbx := hb fs[i] (List.getElem_mem hlt)
      have y1 := fun k => str_of (hBa.drewN k) hbx
      have y2 := fun k => str_of (hBb.drewN k) hbx
      obtain ⟨a5, cap5, rfl, -⟩ := id hBa
      obtain ⟨a6, cap6, rfl, -⟩ := id hBb
      generalize fs[i] = x at *
      clear h1 h2 hb hx
      go_wp2
      go_region_held3 (fun w' => w'.cell? ⟨ba, oa + i * 3, none⟩ = some (.string x.name) ∧ w'.cell? ⟨ba, oa + i * 3 + 1, none⟩ = some (.slice a5 x.data.length cap5) ∧ w'.cell? ⟨ba, oa + i * 3 + 2, none⟩ = some (.int .i64 (x.safe : Int)) ∧ w'.cell? ⟨bb, ob + i * 3, none⟩ = some (.string x.name) ∧ w'.cell? ⟨bb, ob + i * 3 + 1, none⟩ = some (.slice a6 x.data.length cap6) ∧ w'.cell? ⟨bb, ob + i * 3 + 2, none⟩ = some (.int .i64 (x.safe : Int)) ∧
          (convert 32 9 (.slice a5 x.data.length cap5)).run Tryz.prog w' = .ok (.string (str x.data)) w' ∧ (convert 32 9 (.slice a6 x.data.length cap6)).run Tryz.prog w' = .ok (.string (str x.data)) w')
        (exact ⟨a0, a1, a2, b0, b1, b2, y1 (kd + 1), y2 (kd + 1)⟩) (fail)
      go_wp2
      go_roundg (gk - 1)
      case measure => omega
      case rel => exact ⟨i + 1, by omega, by go_num, kd + 1, rfl⟩
    · have hlti : ¬ (i : Int) < (fs.length : Int) := by omega
      go_wp2
      go_ret
      exact ⟨rfl, below_drewN (Below.refl _ _) _⟩
end Go.Proofs.YtljfhafmedngnaaGreatDoor

/- What a disk's acts turn: its own blocks alone. A disk, by what it does (to be shown of the program's). -/
namespace Go.Proofs.YtljfhafmedngnaaGreatDoor
open Go.RowKit DiskMath
set_option maxRecDepth 100000
set_option linter.unusedSimpArgs false

/-- All blocks but those of S are as they were. -/
structure Kept (S : Nat → Prop) (w w' : World) : Prop where
  os : w'.os = w.os
  tape : w'.tape = w.tape
  output : w'.output = w.output
  size : w.heap.size ≤ w'.heap.size
  block : ∀ k, k < w.heap.size → ¬ S k → w'.heap[k]? = w.heap[k]?
/-- S, apart from the blocks below n, and what is new. -/
@[reducible] def keepBut (S : Nat → Prop) (w : World) (hS : ∀ b, S b → b < w.heap.size) : Keep := ⟨⟨fun b => ¬ S b, w.heap.size, fun b h hb => by have := hS b hb; omega⟩⟩

theorem Kept.below {S : Nat → Prop} {w w' : World} {n : Nat} (h : Kept S w w') (hn : n ≤ w.heap.size) (hS : ∀ b, S b → n ≤ b) : Below n w w' :=
  ⟨h.os, h.tape, h.output, h.size, fun k hk => h.block k (by omega) fun hs => by have := hS k hs; omega⟩
theorem Below.kept {S : Nat → Prop} {w w' : World} (h : Below w.heap.size w w') : Kept S w w' := ⟨h.os, h.tape, h.output, h.size, fun k hk _ => h.block k hk⟩
theorem Kept.cell {S : Nat → Prop} {w w' : World} (h : Kept S w w') {p : Addr} {v : Value} (hc : w.cell? p = some v) (hp : ¬ S p.block) : w'.cell? p = some v :=
  (World.cell?_of_block (w := w) (h.block p.block (World.block_lt_of_cell? w _ hc) hp)).trans hc

/-- The blocks of a disk behind an act: those it had, and new ones. -/
def Step (S S' : Nat → Prop) (w : World) : Prop := ∀ b, S' b → S b ∨ w.heap.size ≤ b

theorem Bs.kept {S S' : Nat → Prop} {w w' : World} {v : Value} {l : List Nat} {hS : ∀ b, S b → b < w.heap.size} {hS' : ∀ b, S' b → b < w'.heap.size} (h : @Bs (keepBut S w hS) w.heap.size w v l) (hk : Kept S w w') (hs : Step S S' w) : @Bs (keepBut S' w' hS') w'.heap.size w' v l := by
  obtain ⟨ao, cap, h1, h2, h3, h4, h5⟩ := h
  exact ⟨ao, cap, h1, h2, h3, h4, fun hne => by
    obtain ⟨b, off, e1, e2, e3⟩ := h5 hne
    exact ⟨b, off, e1, ⟨Nat.lt_of_lt_of_le e2.1 hk.size, fun hb => (hs b hb).elim e2.2 fun h => by have := e2.1; omega⟩, fun j c hj => hk.cell (p := ⟨b, off + j, none⟩) (e3 j c hj) e2.2⟩⟩
theorem Fv.kept {S S' : Nat → Prop} {w w' : World} {lv : Value} {fs : Files} {hS : ∀ b, S b → b < w.heap.size} {hS' : ∀ b, S' b → b < w'.heap.size} (h : @Fv (keepBut S w hS) w lv fs) (hk : Kept S w w') (hs : Step S S' w) : @Fv (keepBut S' w' hS') w' lv fs := by
  obtain ⟨_, ao, cap, e, h2⟩ := h
  refine ⟨Nat.le_refl _, ao, cap, e, fun i f hf => ?_⟩
  obtain ⟨b, off, sv, r1, r2, r3, r4, r5, r6⟩ := h2 i f hf
  exact ⟨b, off, sv, r1, hk.cell (p := ⟨b, off + i * 3, none⟩) r2 r6, hk.cell (p := ⟨b, off + i * 3 + 1, none⟩) r3 r6, hk.cell (p := ⟨b, off + i * 3 + 2, none⟩) r4 r6, r5.kept hk hs, fun hb => (hs b hb).elim r6 fun h => by have := World.block_lt_of_cell? w _ r2; simp at this; omega⟩
/-- What the document's own acts made, of the world as it is then. -/
theorem Fv.renew {S : Nat → Prop} {w w' : World} {lv : Value} {fs : Files} {hS : ∀ b, S b → b < w.heap.size} {hS' : ∀ b, S b → b < w'.heap.size} (h : @Fv (keepBut S w hS) w' lv fs) : @Fv (keepBut S w' hS') w' lv fs :=
  h.imp (fun _ _ hk => hk) (Nat.le_refl _)

/-- What an act with a disk tells and leaves. -/
def Did (Dk : (Nat → Prop) → World → Value → Files → Prop) (S : Nat → Prop) (d : Value) (w : World) (R : Files × Nat) (e : Ending) (w' : World) : Prop :=
  e = .returned (.int .i64 (R.2 : Int)) ∧ ∃ S', Dk S' w' d R.1 ∧ Step S S' w ∧ Kept S w w'
def DidC (Dk : (Nat → Prop) → World → Value → Files → Prop) (S : Nat → Prop) (d : Value) (w : World) (fs : Files) (e : Ending) (w' : World) : Prop :=
  e = .returned (.tuple #[]) ∧ ∃ S', Dk S' w' d fs ∧ Step S S' w ∧ Kept S w w'

/-- A disk, by what it does. -/
structure DiskOf (Dk : (Nat → Prop) → World → Value → Files → Prop) : Prop where
  lt : ∀ {S w d fs}, Dk S w d fs → ∀ b, S b → b < w.heap.size
  sound : ∀ {S w d fs}, Dk S w d fs → SoundF fs
  kept : ∀ {S w w' d fs}, Dk S w d fs → w.heap.size ≤ w'.heap.size → (∀ b, S b → w'.heap[b]? = w.heap[b]?) → Dk S w' d fs
  append : ∀ {S w d fs} (n : ByteArray) (bv : Value) (bl : List Nat), Dk S w d fs → @Bs keepAll w.heap.size w bv bl → (∀ c ∈ bl, c < 256) → bl.length ≤ 140737488355328 → Calls Tryz.prog 56 #[d, .string n, bv] w (Did Dk S d w (dAppend fs n bl))
  sync : ∀ {S w d fs} (n : ByteArray), n.size ≤ maxLen → Dk S w d fs → Calls Tryz.prog 36 #[d, .string n] w (Did Dk S d w (dSync fs n))
  cut : ∀ {S w d fs} (n : ByteArray) (k : Int), n.size ≤ maxLen → Dk S w d fs → Calls Tryz.prog 79 #[d, .string n, .int .i64 k] w (Did Dk S d w (dCut fs n k))
  remove : ∀ {S w d fs} (n : ByteArray), n.size ≤ maxLen → Dk S w d fs → Calls Tryz.prog 46 #[d, .string n] w (Did Dk S d w (dRemove fs n))
  crash : ∀ {S w d fs} (cv : Value) (cuts : List Int), Dk S w d fs → (∀ w', Kept S w w' → Nv w' cv cuts) → Calls Tryz.prog 17 #[d, cv] w (DidC Dk S d w (crash fs cuts))

theorem Kept.then {S : Nat → Prop} {w w1 w2 : World} (h : Kept S w w1) (hb : Below w1.heap.size w1 w2) : Kept S w w2 :=
  ⟨hb.os.trans h.os, hb.tape.trans h.tape, hb.output.trans h.output, Nat.le_trans h.size hb.size, fun k hk hs => (hb.block k (Nat.lt_of_lt_of_le hk h.size)).trans (h.block k hk hs)⟩
theorem DiskOf.below {Dk : (Nat → Prop) → World → Value → Files → Prop} (H : DiskOf Dk) {S : Nat → Prop} {w w' : World} {d : Value} {fs : Files} (h : Dk S w d fs) (hb : Below w.heap.size w w') : Dk S w' d fs :=
  H.kept h hb.size fun b hs => hb.block b (H.lt h b hs)

theorem Kept.after {S : Nat → Prop} {w w1 w2 : World} (hb : Below w.heap.size w w1) (h : Kept S w1 w2) : Kept S w w2 :=
  ⟨h.os.trans hb.os, h.tape.trans hb.tape, h.output.trans hb.output, Nat.le_trans hb.size h.size, fun k hk hs => (h.block k (Nat.lt_of_lt_of_le hk hb.size) hs).trans (hb.block k hk)⟩
theorem Step.after {S S' : Nat → Prop} {w w1 : World} (h : Step S S' w1) (hb : Below w.heap.size w w1) : Step S S' w := fun b hs => (h b hs).imp id fun h => Nat.le_trans hb.size h
theorem Fv.shape {K : Keep} {w : World} {lv : Value} {fs : Files} (h : @Fv K w lv fs) : ∃ ao cap, lv = .slice ao fs.length cap := by
  obtain ⟨_, ao, cap, e, _⟩ := h
  exact ⟨ao, cap, e⟩

end Go.Proofs.YtljfhafmedngnaaGreatDoor

