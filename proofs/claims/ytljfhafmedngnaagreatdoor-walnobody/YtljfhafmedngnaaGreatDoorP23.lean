import Derived.Test.YtljfhafmedngnaaGreatDoorP22
import Derived.Test.YtljfhafmedngnaaGreatDoorP17
import Derived.Test.YtljfhafmedngnaaGreatDoorP03
import Derived.Deep.RegionWith
/- Segments in memory: their row, and each one's places, all apart by a mark a block. -/
namespace WalMath
/-- A segment. -/
structure Seg where
  num : Nat
  recs : List Rec
end WalMath
namespace Go.Proofs.YtljfhafmedngnaaGreatDoor
open Go.RowKit WalMath
set_option maxRecDepth 100000
set_option linter.unusedSimpArgs false
set_option linter.unusedVariables false

/-- A block's mark (0: none; 1: the log; 2: the segments' row; 3: a segment's places, by its number; 4: what else is one's own). -/
abbrev Wm := Nat → Nat × Nat
/-- Segments as cells. -/
def sg2 (sg : List Seg) (vs : List Value) : List (Value × Value) := List.zipWith (fun s v => (.int .i64 (s.num : Int), v)) sg vs
theorem sg2_length {sg : List Seg} {vs : List Value} (h : vs.length = sg.length) : (sg2 sg vs).length = sg.length := by simp [sg2, h]
theorem sg2_get {sg : List Seg} {vs : List Value} {i : Nat} {s : Seg} {v : Value} (h1 : sg[i]? = some s) (h2 : vs[i]? = some v) : (sg2 sg vs)[i]? = some (.int .i64 (s.num : Int), v) := by
  simp [sg2, List.getElem?_zipWith, h1, h2]
theorem sg2_snoc {sg : List Seg} {vs : List Value} (h : vs.length = sg.length) (s : Seg) (v : Value) : sg2 (sg ++ [s]) (vs ++ [v]) = sg2 sg vs ++ [(.int .i64 (s.num : Int), v)] := by
  unfold sg2
  rw [List.zipWith_append h.symm]
  rfl
theorem sg2_take (sg : List Seg) (vs : List Value) (n : Nat) : (sg2 sg vs).take n = sg2 (sg.take n) (vs.take n) := by
  unfold sg2
  rw [List.take_zipWith]

structure SegsAt (σ : Wm) (w : World) (sv : Value) (sg : List Seg) : Prop where
  ex : ∃ vs : List Value, vs.length = sg.length ∧ R2 w 73 sv (sg2 sg vs) ∧ ∀ (i : Nat) (s : Seg) (v : Value), sg[i]? = some s → vs[i]? = some v → R2 w 120 v (pl2 (plc 0 s.recs)) ∧ ∀ k, v.ownBlock = some k → σ k = (3, s.num)
  row : ∀ k, sv.ownBlock = some k → σ k = (2, 0)
  lt : ∀ b, (σ b).1 ≠ 0 → b < w.heap.size

theorem SegsAt.same {σ σ' : Wm} {w w' : World} {sv : Value} {sg : List Seg} (h : SegsAt σ w sv sg) (hs : ∀ b, (σ b).1 ≠ 0 → w'.heap[b]? = w.heap[b]?) (hσ : ∀ b, (σ b).1 ≠ 0 → σ' b = σ b) (hlt : ∀ b, (σ' b).1 ≠ 0 → b < w'.heap.size) : SegsAt σ' w' sv sg := by
  obtain ⟨vs, h1, h2, h3⟩ := h.ex
  refine ⟨⟨vs, h1, h2.same fun k hk => hs k (by rw [h.row k hk]; simp), fun i s v hi hv => ?_⟩, fun k hk => (hσ k (by rw [h.row k hk]; simp)).trans (h.row k hk), hlt⟩
  obtain ⟨h4, h5⟩ := h3 i s v hi hv
  exact ⟨h4.same fun k hk => hs k (by rw [h5 k hk]; simp), fun k hk => (hσ k (by rw [h5 k hk]; simp)).trans (h5 k hk)⟩
theorem SegsAt.below {σ : Wm} {w w' : World} {sv : Value} {sg : List Seg} (h : SegsAt σ w sv sg) (hb : Below w.heap.size w w') : SegsAt σ w' sv sg :=
  h.same (fun b hm => hb.block b (h.lt b hm)) (fun _ _ => rfl) fun b hm => Nat.lt_of_lt_of_le (h.lt b hm) hb.size
theorem SegsAt.nil (σ : Wm) (w : World) (hlt : ∀ b, (σ b).1 ≠ 0 → b < w.heap.size) : SegsAt σ w (.slice none 0 0) [] :=
  ⟨⟨[], rfl, R2.nil _ _, fun i s v h => by simp at h⟩, (fun k hk => by cases hk), hlt⟩
theorem SegsAt.shape {σ : Wm} {w : World} {sv : Value} {sg : List Seg} (h : SegsAt σ w sv sg) : ∃ ao cap, sv = .slice ao sg.length cap ∧ sg.length ≤ cap ∧ cap ≤ maxLen := by
  obtain ⟨vs, h1, h2, h3⟩ := h.ex
  obtain ⟨ao, cap, e, h4, h5, -⟩ := h2.shape
  rw [sg2_length h1] at e h4
  exact ⟨ao, cap, e, h4, h5⟩
/-- What stands in the row. -/
theorem SegsAt.cells {σ : Wm} {w : World} {sv : Value} {sg : List Seg} (h : SegsAt σ w sv sg) (hne : sg ≠ []) : ∃ g cap, sv = .slice (some ⟨g, 0, none⟩) sg.length cap ∧ sg.length ≤ cap ∧ cap ≤ maxLen ∧ σ g = (2, 0) ∧ g < w.heap.size ∧ (∀ i, w.frozen? ⟨g, i, none⟩ = false) ∧ ∀ i s, sg[i]? = some s → ∃ v, w.cell? ⟨g, i * 2, none⟩ = some (.int .i64 (s.num : Int)) ∧ w.cell? ⟨g, i * 2 + 1, none⟩ = some v ∧ R2 w 120 v (pl2 (plc 0 s.recs)) ∧ ∀ k, v.ownBlock = some k → σ k = (3, s.num) := by
  obtain ⟨vs, h1, h2, h3⟩ := h.ex
  have hl := sg2_length h1
  obtain ⟨g, cap, e, h4, h5, h6, h7, h8⟩ := h2.cells (by intro e; rw [e] at hl; exact hne (List.eq_nil_of_length_eq_zero hl.symm))
  rw [hl] at e h4
  refine ⟨g, cap, e, h4, h5, h.row g (by rw [e]; rfl), h6, h8, fun i s hi => ?_⟩
  have hil := (List.getElem?_eq_some_iff.1 hi).1
  have hv := List.getElem?_eq_getElem (show i < vs.length by omega)
  obtain ⟨c1, c2⟩ := h7 i _ (sg2_get hi hv)
  exact ⟨vs[i], c1, c2, h3 i s _ hi hv⟩

/-- What one segment more leaves. -/
def Pushed (σ : Wm) (w : World) (sv : Value) (sg : List Seg) (v : Value) (sv' : Value) (w' : World) : Prop :=
  ∃ σ', SegsAt σ' w' sv' sg ∧ w.grownBy w' sv.ownBlock ∧ (∀ b, (σ b).1 ≠ 0 → σ' b = σ b) ∧ ∀ b, (σ' b).1 ≠ 0 → (σ b).1 ≠ 0 ∨ v.ownBlock = some b ∨ w.heap.size ≤ b
theorem SegsAt.push {σ : Wm} {w : World} {sv : Value} {sg : List Seg} (h : SegsAt σ w sv sg) (s : Seg) (v : Value) (hR : R2 w 120 v (pl2 (plc 0 s.recs))) (hv : ∀ k, v.ownBlock = some k → (σ k).1 = 0) (hlen : sg.length ≤ 1000) (ty : TypeId) :
    ∃ sv' w', (Builtin.append_ #[63, 63] ty #[sv, .slice (some ⟨w.heap.size, 0, none⟩) 1 1]).run Tryz.prog (w.alloc (.cells #[.int .i64 (s.num : Int), v] 73)) = .ok sv' w' ∧ Pushed σ w sv (sg ++ [s]) v sv' w' := by
  obtain ⟨vs, h1, h2, h3⟩ := h.ex
  have hv1 : v.oneCell' = true := by
    obtain ⟨ao, cap, rfl, -⟩ := hR.shape
    rfl
  obtain ⟨sv', w', r1, r2, r3, r4⟩ := push_seg w ty sv (sg2 sg vs) (.int .i64 (s.num : Int), v) h2 (by rw [sg2_length h1]; omega) rfl hv1
  have hσ : ∀ b, (σ b).1 ≠ 0 → (if v.ownBlock = some b then (3, s.num) else if w.heap.size ≤ b ∧ sv'.ownBlock = some b then (2, 0) else σ b) = σ b := fun b hb => by
    rw [if_neg (fun e => hb (hv b e)), if_neg (fun e => by have := h.lt b hb; omega)]
  refine ⟨sv', w', r1, fun b => if v.ownBlock = some b then (3, s.num) else if w.heap.size ≤ b ∧ sv'.ownBlock = some b then (2, 0) else σ b, ⟨⟨vs ++ [v], by simp [h1], by rw [sg2_snoc h1]; exact r2, fun i t u hi hu => ?_⟩, fun k hk => ?_, fun b hb => ?_⟩, r3, hσ, fun b hb => ?_⟩
  · by_cases hil : i < sg.length
    · rw [List.getElem?_append_left hil] at hi
      rw [List.getElem?_append_left (by omega)] at hu
      obtain ⟨g1, g2⟩ := h3 i t u hi hu
      have hm : ∀ k, u.ownBlock = some k → (σ k).1 ≠ 0 := fun k hk => by rw [g2 k hk]; simp
      refine ⟨g1.same fun k hk => r3.block k (g1.lt hk) (fun e => ?_), fun k hk => (hσ k (hm k hk)).trans (g2 k hk)⟩
      have := h.row k e.symm
      rw [g2 k hk] at this
      cases this
    · rw [List.getElem?_append_right (by omega)] at hi
      rw [List.getElem?_append_right (by omega), h1] at hu
      obtain ⟨rfl, rfl⟩ : s = t ∧ v = u := by
        cases hc : i - sg.length with
        | zero =>
          rw [hc] at hi hu
          simp at hi hu
          exact ⟨hi, hu⟩
        | succ n =>
          rw [hc] at hi
          simp at hi
      refine ⟨hR.same fun k hk => r3.block k (hR.lt hk) (fun e => ?_), fun k hk => by rw [if_pos hk]⟩
      have := h.row k e.symm
      have h0 := hv k hk
      rw [this] at h0
      cases h0
  · show (if v.ownBlock = some k then _ else _) = _
    rcases r4 k hk with h' | h'
    · have hk2 := h.row k h'
      rw [if_neg (fun e => by have := hv k e; rw [hk2] at this; cases this), if_neg (fun e => by have := h2.lt h'; omega), hk2]
    · rw [if_neg (fun e => by have := hR.lt e; omega), if_pos ⟨h', hk⟩]
  · have hb' : (if v.ownBlock = some b then (3, s.num) else if w.heap.size ≤ b ∧ sv'.ownBlock = some b then (2, 0) else σ b).1 ≠ 0 := hb
    split at hb'
    · rename_i e
      exact Nat.lt_of_lt_of_le (hR.lt e) r3.size
    · split at hb'
      · rename_i e
        exact r2.lt e.2
      · exact Nat.lt_of_lt_of_le (h.lt b hb') r3.size
  · have hb' : (if v.ownBlock = some b then (3, s.num) else if w.heap.size ≤ b ∧ sv'.ownBlock = some b then (2, 0) else σ b).1 ≠ 0 := hb
    split at hb'
    · rename_i e
      exact .inr (.inl e)
    · split at hb'
      · rename_i e
        exact .inr (.inr e.1)
      · exact .inl hb'
end Go.Proofs.YtljfhafmedngnaaGreatDoor

/- Files as they are read of a disk, by rising numbers: sorting and thinning them leaves them. -/
namespace Go.Proofs.YtljfhafmedngnaaGreatDoor
open Go.RowKit
set_option maxRecDepth 100000
set_option linter.unusedSimpArgs false
set_option linter.unusedVariables false

/-- Files as they are read: numbers and bytes. -/
def Nf (w : World) (v : Value) (l : List (Nat × List Nat)) : Prop :=
  ∃ ao cap, v = .slice ao l.length cap ∧ ∀ (i : Nat) (x : Nat × List Nat), l[i]? = some x → ∃ b off sv, ao = some ⟨b, off, none⟩ ∧ w.cell? ⟨b, off + i * 2, none⟩ = some (.int .i64 (x.1 : Int)) ∧ w.cell? ⟨b, off + i * 2 + 1, none⟩ = some sv ∧ @Bs keepAll w.heap.size w sv x.2 ∧ (sv = .slice none 0 0 ∨ ∃ g n c, sv = .slice (some ⟨g, 0, none⟩) n c)
theorem Nf.below {w w' : World} {v : Value} {l : List (Nat × List Nat)} (h : Nf w v l) (hb : Below w.heap.size w w') : Nf w' v l := by
  obtain ⟨ao, cap, e, h2⟩ := h
  refine ⟨ao, cap, e, fun i x hx => ?_⟩
  obtain ⟨b, off, sv, r1, r2, r3, r4⟩ := h2 i x hx
  letI := keepAll
  exact ⟨b, off, sv, r1, (hb.cell (p := ⟨b, off + i * 2, none⟩) (World.block_lt_of_cell? w _ r2)).trans r2, (hb.cell (p := ⟨b, off + i * 2 + 1, none⟩) (World.block_lt_of_cell? w _ r3)).trans r3, (r4.1.below hb).mono hb.size, r4.2⟩

theorem cmp_of (x y : Nat) (u v : Value) (w : World) : Calls Tryz.prog 97 #[.agg #[.int .i64 (x : Int), u], .agg #[.int .i64 (y : Int), v]] w fun e w' => e = .returned (.int .i64 (Lib.compareInt (x : Int) (y : Int))) ∧ Below w.heap.size w w' := by
  have hc := Tryz.cmp_Compare_int (x : Int) (y : Int)
  have hb := ((Below.refl w.heap.size w).alloc (Nat.le_refl _) (.cells #[.int .i64 (x : Int), u] 122)).alloc (by simp) (.cells #[.int .i64 (y : Int), v] 122)
  go_enter Tryz.func97, Tryz.ntmps97
  go_wp2_with fail
  refine (hc _).mono ?_
  rintro e w1 ⟨rfl, hw1⟩
  rw [hw1]
  clear hw1 w1 hc
  go_wp2
  go_ret
  exact ⟨rfl, hb⟩
theorem eqf_of (x y : Nat) (u v : Value) (w : World) (hne : x ≠ y) : Calls Tryz.prog 100 #[.agg #[.int .i64 (x : Int), u], .agg #[.int .i64 (y : Int), v]] w fun e w' => e = .returned (.bool false) ∧ Below w.heap.size w w' := by
  have hb := ((Below.refl w.heap.size w).alloc (Nat.le_refl _) (.cells #[.int .i64 (x : Int), u] 122)).alloc (by simp) (.cells #[.int .i64 (y : Int), v] 122)
  have h1 : ((x : Int) == (y : Int)) = false := by simp; omega
  have h2 : ¬ (x : Int) = (y : Int) := by omega
  go_enter Tryz.func100, Tryz.ntmps100
  go_wp2
  go_ret
  exact ⟨rfl, hb⟩

@[go_sem] theorem dec_pos_i (i : Nat) (h : 0 < i) : decide ((0 : Int) < (i : Int)) = true := by simp; omega
@[go_sem] theorem dec_pos_n (i : Nat) (h : 0 < i) : decide (0 < i) = true := by simp; omega

/-- Numbers rise. -/
def Rising (l : List (Nat × List Nat)) : Prop := ∀ (i : Nat) (x y : Nat × List Nat), l[i]? = some x → l[i + 1]? = some y → x.1 < y.1

set_option maxHeartbeats 1000000 in
theorem insertion_of (l : List (Nat × List Nat)) (v : Value) (w : World) (hN : Nf w v l) (hr : Rising l) (hl : l.length ≤ 1000) :
    Calls Tryz.prog 140 #[v, .int .i64 0, .int .i64 (l.length : Int), .func (.func 97) #[] #[]] w fun e w' => e = .returned (.tuple #[]) ∧ Below w.heap.size w w' := by
  obtain ⟨ao, cap, rfl, hc⟩ := id hN
  go_enter Tryz.func140, Tryz.ntmps140
  go_wp2
  go_loopg [8] (l.length + 1) (fun g s8 wr => ∃ i : Nat, i + g = l.length + 2 ∧ 1 ≤ i ∧ s8 = .int .i64 (i : Int) ∧ Below w.heap.size w wr)
  case atStart => exact ⟨1, by omega, by omega, rfl, Below.refl _ _⟩
  case round =>
    obtain ⟨i, hi, hi1, rfl, hbr⟩ := hrel
    by_cases hlt : i < l.length
    · have hlti : (i : Int) < (l.length : Int) := by omega
      obtain ⟨j, hij⟩ : ∃ j, Hid (i = j + 1) := ⟨i - 1, by show _ = _; omega⟩
      have hjl : j < l.length := by have := hij.out; omega
      have hx := List.getElem?_eq_getElem hlt
      have hy := List.getElem?_eq_getElem hjl
      have hlt2 := hr j _ _ hy (by rw [← hij.out]; exact hx)
      generalize l[i] = x at *
      generalize l[j] = y at *
      obtain ⟨b, off, sx, rfl, x1, x2, x3⟩ := hc i x hx
      obtain ⟨b', off', sy, e, y1, y2, y3⟩ := hc j y hy
      cases e
      have hS : ∀ w', Below w.heap.size w w' → w'.cell? ⟨b, off + i * 2, none⟩ = some (.int .i64 (x.1 : Int)) ∧ w'.cell? ⟨b, off + i * 2 + 1, none⟩ = some sx ∧ w'.cell? ⟨b, off + j * 2, none⟩ = some (.int .i64 (y.1 : Int)) ∧ w'.cell? ⟨b, off + j * 2 + 1, none⟩ = some sy := fun w' hb =>
        ⟨(hb.cell (p := ⟨b, off + i * 2, none⟩) (World.block_lt_of_cell? w _ x1)).trans x1, (hb.cell (p := ⟨b, off + i * 2 + 1, none⟩) (World.block_lt_of_cell? w _ x2)).trans x2, (hb.cell (p := ⟨b, off + j * 2, none⟩) (World.block_lt_of_cell? w _ y1)).trans y1, (hb.cell (p := ⟨b, off + j * 2 + 1, none⟩) (World.block_lt_of_cell? w _ y2)).trans y2⟩
      have hjli : (j : Int) < (l.length : Int) := by omega
      have hi0 : 0 < i := by omega
      have q1 : IntKind.i64.wrap ((i : Int) - 1) = (j : Int) := by
        have := hij.out
        rw [show (i : Int) - 1 = (j : Int) by omega]
        exact IntWalk.i64_in _ (by omega)
      have q2 : IntKind.i64.wrap ((i : Int) + 1) = ((i + 1 : Nat) : Int) := by
        rw [show (i : Int) + 1 = ((i + 1 : Nat) : Int) by omega]
        exact IntWalk.i64_in _ (by omega)
      have hcmp := cmp_of x.1 y.1 sx sy wr.drew
      have hdr : Below w.heap.size wr wr.drew := (Below.refl _ _).drew
      have hg : Lib.compareInt (x.1 : Int) (y.1 : Int) = 1 := by unfold Lib.compareInt; rw [if_neg (by omega), if_pos (by omega)]
      rw [hg] at hcmp
      have y0 := hS _ (hbr.trans hdr)
      clear x1 x2 x3 y1 y2 y3 hx hy hc hN hr hg hlt2
      obtain ⟨g0, hg0⟩ : ∃ g0, Hid (g0 = gk) := ⟨gk, rfl⟩
      go_wp2
      go_loopg [9] 0 (fun g s9 wr2 => s9 = .int .i64 (i : Int) ∧ wr2 = wr)
      case atStart => exact ⟨rfl, rfl⟩
      case round =>
        obtain ⟨rfl, rfl⟩ := hrel
        go_wp2
        go_region_held3 (fun w' => w'.cell? ⟨b, off + i * 2, none⟩ = some (.int .i64 (x.1 : Int)) ∧ w'.cell? ⟨b, off + i * 2 + 1, none⟩ = some sx ∧ w'.cell? ⟨b, off + j * 2, none⟩ = some (.int .i64 (y.1 : Int)) ∧ w'.cell? ⟨b, off + j * 2 + 1, none⟩ = some sy)
          (first | exact y0 | exact y2 | go_keep)
          ((go_at_call 97; refine hcmp.mono ?_; rintro e w2 ⟨rfl, hb2⟩; have hb02 := hbr.trans (hdr.trans (hb2.mono hbr.size)); have y2 := hS _ hb02))
        clear hS hcmp y0 y2
        go_wp2
        go_roundg (g0 - 1)
        case measure => have := hg0.out; omega
        case rel => have := hg0.out; exact ⟨i + 1, by omega, by omega, rfl, hb02⟩
    · have hlti : ¬ (i : Int) < (l.length : Int) := by omega
      go_wp2
      go_end0
      exact ⟨rfl, hbr⟩

set_option maxHeartbeats 1000000 in
theorem stable_of (l : List (Nat × List Nat)) (v : Value) (w : World) (hN : Nf w v l) (hr : Rising l) (hl : l.length < 20) :
    Calls Tryz.prog 118 #[v, .int .i64 (l.length : Int), .func (.func 97) #[] #[]] w fun e w' => e = .returned (.tuple #[]) ∧ Below w.heap.size w w' := by
  have hi := insertion_of l v w hN hr (by omega)
  obtain ⟨ao, cap, rfl, -⟩ := hN
  have h1 : ¬ (20 : Int) ≤ (l.length : Int) := by omega
  have h2 : ¬ (20 : Int) < (l.length : Int) := by omega
  go_enter Tryz.func118, Tryz.ntmps118
  go_wp2
  go_loopg [7, 8] 0 (fun g s7 s8 wr => s7 = .int .i64 0 ∧ s8 = .int .i64 20 ∧ wr = w)
  case atStart => exact ⟨rfl, rfl, rfl⟩
  case round =>
    obtain ⟨rfl, rfl, rfl⟩ := hrel
    go_wp2_with fail
    refine hi.mono ?_
    rintro e w1 ⟨rfl, hb⟩
    go_wp2
    go_loopg [6] 0 (fun g s6 wr2 => s6 = .int .i64 20 ∧ wr2 = w1)
    case atStart => exact ⟨rfl, rfl⟩
    case round =>
      obtain ⟨rfl, rfl⟩ := hrel
      go_wp2
      go_end0
      exact ⟨rfl, hb⟩

set_option maxHeartbeats 1000000 in
theorem sortStable_of (l : List (Nat × List Nat)) (v : Value) (w : World) (hN : Nf w v l) (hr : Rising l) (hl : l.length < 20) :
    Calls Tryz.prog 96 #[v, .func (.func 97) #[] #[]] w fun e w' => e = .returned (.tuple #[]) ∧ Below w.heap.size w w' := by
  have hi := stable_of l v w hN hr hl
  obtain ⟨ao, cap, rfl, -⟩ := hN
  go_enter Tryz.func96, Tryz.ntmps96
  go_wp2_with fail
  refine hi.mono ?_
  rintro e w1 ⟨rfl, hb⟩
  go_wp2
  go_end0
  exact ⟨rfl, hb⟩

set_option maxHeartbeats 1000000 in
theorem compact_of (l : List (Nat × List Nat)) (v : Value) (w : World) (hN : Nf w v l) (hr : Rising l) (hl : l.length ≤ 1000) :
    Calls Tryz.prog 99 #[v, .func (.func 100) #[] #[]] w fun e w' => e = .returned v ∧ Below w.heap.size w w' := by
  obtain ⟨ao, cap, rfl, hc⟩ := id hN
  by_cases h2 : l.length < 2
  · have h2i : (l.length : Int) < 2 := by omega
    go_enter Tryz.func99, Tryz.ntmps99
    go_wp2
    go_ret
    exact ⟨rfl, Below.refl _ _⟩
  have h2i : ¬ (l.length : Int) < 2 := by omega
  go_enter Tryz.func99, Tryz.ntmps99
  go_wp2
  go_loopg [5] (l.length + 1) (fun g s5 wr => ∃ i : Nat, i + g = l.length + 2 ∧ 1 ≤ i ∧ s5 = .int .i64 (i : Int) ∧ Below w.heap.size w wr)
  case atStart => exact ⟨1, by omega, by omega, rfl, Below.refl _ _⟩
  case round =>
    obtain ⟨i, hi, hi1, rfl, hbr⟩ := hrel
    by_cases hlt : i < l.length
    · have hlti : (i : Int) < (l.length : Int) := by omega
      obtain ⟨j, hij⟩ : ∃ j, Hid (i = j + 1) := ⟨i - 1, by show _ = _; omega⟩
      have hjl : j < l.length := by have := hij.out; omega
      have hx := List.getElem?_eq_getElem hlt
      have hy := List.getElem?_eq_getElem hjl
      have hlt2 := hr j _ _ hy (by rw [← hij.out]; exact hx)
      generalize l[i] = x at *
      generalize l[j] = y at *
      obtain ⟨b, off, sx, rfl, x1, x2, x3⟩ := hc i x hx
      obtain ⟨b', off', sy, e, y1, y2, y3⟩ := hc j y hy
      cases e
      have hS : ∀ w', Below w.heap.size w w' → w'.cell? ⟨b, off + i * 2, none⟩ = some (.int .i64 (x.1 : Int)) ∧ w'.cell? ⟨b, off + i * 2 + 1, none⟩ = some sx ∧ w'.cell? ⟨b, off + j * 2, none⟩ = some (.int .i64 (y.1 : Int)) ∧ w'.cell? ⟨b, off + j * 2 + 1, none⟩ = some sy := fun w' hb =>
        ⟨(hb.cell (p := ⟨b, off + i * 2, none⟩) (World.block_lt_of_cell? w _ x1)).trans x1, (hb.cell (p := ⟨b, off + i * 2 + 1, none⟩) (World.block_lt_of_cell? w _ x2)).trans x2, (hb.cell (p := ⟨b, off + j * 2, none⟩) (World.block_lt_of_cell? w _ y1)).trans y1, (hb.cell (p := ⟨b, off + j * 2 + 1, none⟩) (World.block_lt_of_cell? w _ y2)).trans y2⟩
      have hjli : (j : Int) < (l.length : Int) := by omega
      have q1 : IntKind.i64.wrap ((i : Int) - 1) = (j : Int) := by
        have := hij.out
        rw [show (i : Int) - 1 = (j : Int) by omega]
        exact IntWalk.i64_in _ (by omega)
      have q2 : IntKind.i64.wrap ((i : Int) + 1) = ((i + 1 : Nat) : Int) := by
        rw [show (i : Int) + 1 = ((i + 1 : Nat) : Int) by omega]
        exact IntWalk.i64_in _ (by omega)
      have hcmp := eqf_of x.1 y.1 sx sy wr.drew (by omega)
      have hdr : Below w.heap.size wr wr.drew := (Below.refl _ _).drew
      have y0 := hS _ (hbr.trans hdr)
      clear x1 x2 x3 y1 y2 y3 hx hy hc hN hr hlt2
      go_wp2
      go_region_held3 (fun w' => w'.cell? ⟨b, off + i * 2, none⟩ = some (.int .i64 (x.1 : Int)) ∧ w'.cell? ⟨b, off + i * 2 + 1, none⟩ = some sx ∧ w'.cell? ⟨b, off + j * 2, none⟩ = some (.int .i64 (y.1 : Int)) ∧ w'.cell? ⟨b, off + j * 2 + 1, none⟩ = some sy)
        (first | exact y0 | exact y2 | go_keep)
        ((go_at_call 100; refine hcmp.mono ?_; rintro e w2 ⟨rfl, hb2⟩; have hb02 := hbr.trans (hdr.trans (hb2.mono hbr.size)); have y2 := hS _ hb02))
      clear hS hcmp y0 y2
      go_wp2
      go_roundg (gk - 1)
      case measure => omega
      case rel => exact ⟨i + 1, by omega, by omega, rfl, hb02⟩
    · have hlti : ¬ (i : Int) < (l.length : Int) := by omega
      go_wp2
      go_ret
      exact ⟨rfl, hbr⟩
end Go.Proofs.YtljfhafmedngnaaGreatDoor

