/- The contract of the law's own written: an item's bytes behind what was there, by the program, and by the document; what lay in memory before stays as it was. -/
import Derived.Test.YtjimippblgddbaaRf
import Derived.Deep.RegionWith
import Derived.PlainAid
import Derived.Laws.Bits64b
namespace Go.Proofs.Ytjimippblgddbaa
open Go.RowKit WireMath
set_option maxRecDepth 100000
set_option linter.unusedSimpArgs false

/-- A number's bits with a sign. -/
def s64 (n : Nat) : Int := if n < 9223372036854775808 then n else (n : Int) - 18446744073709551616
theorem s64_ge {n : Nat} (h : n < 18446744073709551616) : -9223372036854775808 ≤ s64 n ∧ s64 n ≤ 9223372036854775807 := by
  unfold s64
  split <;> omega

/-- An item's bytes. -/
def itB (d : Int) (n : Nat) (s : List Nat) : List Nat :=
  if d = 0 then uv n else if d = 1 then uv (zz (s64 n)) else if d = 2 then fx 4 (n % 4294967296) else if d = 3 then fx 8 n else if d = 6 then uv s.length ++ s else []

/-- What the law's written leaves: both answers, and old memory as it was. -/
def Wrote (w : World) (v : Value) (l r : List Nat) (e : Ending) (w' : World) : Prop :=
  ∃ v1 v2, e = .returned (.tuple #[v1, v2]) ∧ (∀ k, v1.ownBlock = some k → (w.heap.size ≤ k ∧ k < w'.heap.size) ∨ v.ownBlock = some k) ∧ Bs w'.heap.size w' v1 (l ++ r) ∧ Bs w'.heap.size w' v2 r ∧ Below w.heap.size w w'

theorem box_below {w : World} {o : Obj} {w1 : World} (h : Below (w.alloc o).drew.heap.size (w.alloc o).drew w1) : Below w.heap.size w w1 :=
  ((Below.refl _ w).alloc (Nat.le_refl _) o).drew.trans (h.mono (by show w.heap.size ≤ (w.alloc o).heap.size; simp))
theorem box_base {w : World} {o : Obj} {k : Nat} (h : (w.alloc o).drew.heap.size ≤ k) : w.heap.size ≤ k := by
  have h1 : (w.alloc o).heap.size ≤ k := h
  simp at h1
  omega
theorem box_cell {w : World} {cs : Array Value} {t : TypeId} {w1 : World} (h : Below (w.alloc (.cells cs t)).drew.heap.size (w.alloc (.cells cs t)).drew w1) (i : Nat) : w1.cell? ⟨w.heap.size, i, none⟩ = cs[i]? := by
  rw [h.cell (p := ⟨w.heap.size, i, none⟩) (by show w.heap.size < (w.alloc _).heap.size; simp)]
  exact cells_of_block (show (w.alloc (.cells cs t)).drew.heap[w.heap.size]? = _ from heap_alloc_new w _) i

set_option maxHeartbeats 2000000 in
theorem written_0 (l : List Nat) (v : Value) (n : Nat) (sv : Value) (m : Int) (w : World) (hB : Bs w.heap.size w v l) (hn : n < 18446744073709551616) (hlen : l.length ≤ 140737488355000) :
    Calls Try.prog 8 #[v, .agg #[.int .i64 0, .int .u64 (n : Int), sv, .int .i64 m]] w (Wrote w v l (uv n)) := by
  have hU := uvarint_of w.heap.size l v n (w.alloc (.cells #[.int .i64 0, .int .u64 (n : Int), sv, .int .i64 m] 28)).drew (hB.below ((Below.refl _ w).alloc (Nat.le_refl _) _).drew) hn hlen
  have hU' : Calls Try.prog 21 #[v, .int .u64 (n : Int)] (w.alloc (.cells #[.int .i64 0, .int .u64 (n : Int), sv, .int .i64 m] 28)).drew fun e w1 => ∃ v1, e = .returned v1 ∧ (∀ k, v1.ownBlock = some k → w.heap.size ≤ k ∧ k < w1.heap.size) ∧ Bs w1.heap.size w1 v1 (l ++ uv n) ∧ w1.cell? ⟨w.heap.size, 1, none⟩ = some (.int .u64 (n : Int)) ∧ Below w.heap.size w w1 :=
    hU.mono fun e w1 ⟨v1, he, hO, hb⟩ => ⟨v1, he, fun k hk => ⟨box_base (World.ownsRow.lt hO k hk).1, (World.ownsRow.lt hO k hk).2⟩, hO.bs, box_cell hb 1, box_below hb⟩
  have hR : ∀ W, Calls Try.prog 25 #[.int .u64 (n : Int)] W fun e w1 => ∃ v1, e = .returned v1 ∧ Bs w1.heap.size w1 v1 (uv n) ∧ Below W.heap.size W w1 :=
    fun W => (refUvarint_of n W hn).mono fun e w1 ⟨v1, he, hO, hb⟩ => ⟨v1, he, hO.bs, hb⟩
  clear hU
  go_enter Try.func8, Try.ntmps8
  go_wp2
  go_region_with (first | (go_at_call 21; refine hU'.mono ?_; rintro e w1 ⟨v1, rfl, hF1, hB1, hc1, hb1⟩) | (go_at_call 25; refine (hR _).mono ?_; rintro e w2 ⟨v2, rfl, hB2, hb2⟩))
  all_goals go_wp2
  all_goals go_ret2
  all_goals exact ⟨_, _, rfl, fun k hk => .inl ⟨(hF1 k hk).1, Nat.lt_of_lt_of_le (hF1 k hk).2 hb2.size⟩, (hB1.below hb2).mono hb2.size, hB2, hb1.trans (hb2.mono hb1.size)⟩

set_option maxHeartbeats 2000000 in
theorem written_1 (l : List Nat) (v : Value) (n : Nat) (sv : Value) (m : Int) (w : World) (hB : Bs w.heap.size w v l) (hn : n < 18446744073709551616) (hlen : l.length ≤ 140737488355000) :
    Calls Try.prog 8 #[v, .agg #[.int .i64 1, .int .u64 (n : Int), sv, .int .i64 m]] w (Wrote w v l (uv (zz (s64 n)))) := by
  have q1 : IntKind.i64.wrap (n : Int) = s64 n := by
    unfold s64
    split
    · exact IntWalk.i64_in _ (by omega)
    · exact PlainAid.i64_high (by omega) (by omega)
  have hU := varint_of w.heap.size l v (s64 n) (w.alloc (.cells #[.int .i64 1, .int .u64 (n : Int), sv, .int .i64 m] 28)).drew (hB.below ((Below.refl _ w).alloc (Nat.le_refl _) _).drew) (s64_ge hn).1 (s64_ge hn).2 hlen
  have hU' : Calls Try.prog 22 #[v, .int .i64 (s64 n)] (w.alloc (.cells #[.int .i64 1, .int .u64 (n : Int), sv, .int .i64 m] 28)).drew fun e w1 => ∃ v1, e = .returned v1 ∧ (∀ k, v1.ownBlock = some k → w.heap.size ≤ k ∧ k < w1.heap.size) ∧ Bs w1.heap.size w1 v1 (l ++ uv (zz (s64 n))) ∧ w1.cell? ⟨w.heap.size, 1, none⟩ = some (.int .u64 (n : Int)) ∧ Below w.heap.size w w1 :=
    hU.mono fun e w1 ⟨v1, he, hO, hb⟩ => ⟨v1, he, fun k hk => ⟨box_base (World.ownsRow.lt hO k hk).1, (World.ownsRow.lt hO k hk).2⟩, hO.bs, box_cell hb 1, box_below hb⟩
  have hR : ∀ W, Calls Try.prog 26 #[.int .i64 (s64 n)] W fun e w1 => ∃ v1, e = .returned v1 ∧ Bs w1.heap.size w1 v1 (uv (zz (s64 n))) ∧ Below W.heap.size W w1 :=
    fun W => (refVarint_of (s64 n) W (s64_ge hn).1 (s64_ge hn).2).mono fun e w1 ⟨v1, he, hO, hb⟩ => ⟨v1, he, hO.bs, hb⟩
  clear hU
  go_enter Try.func8, Try.ntmps8
  go_wp2
  go_region_with (first | (go_at_call 22; refine hU'.mono ?_; rintro e w1 ⟨v1, rfl, hF1, hB1, hc1, hb1⟩) | (go_at_call 26; refine (hR _).mono ?_; rintro e w2 ⟨v2, rfl, hB2, hb2⟩))
  all_goals go_wp2
  all_goals go_ret2
  all_goals exact ⟨_, _, rfl, fun k hk => .inl ⟨(hF1 k hk).1, Nat.lt_of_lt_of_le (hF1 k hk).2 hb2.size⟩, (hB1.below hb2).mono hb2.size, hB2, hb1.trans (hb2.mono hb1.size)⟩

set_option maxHeartbeats 2000000 in
theorem written_2 (l : List Nat) (v : Value) (n : Nat) (sv : Value) (m : Int) (w : World) (hB : Bs w.heap.size w v l) (hn : n < 18446744073709551616) (hlen : l.length ≤ 140737488355000) :
    Calls Try.prog 8 #[v, .agg #[.int .i64 2, .int .u64 (n : Int), sv, .int .i64 m]] w (Wrote w v l (fx 4 (n % 4294967296))) := by
  have q1 : IntKind.u32.wrap (n : Int) = ((n % 4294967296 : Nat) : Int) := by simp [IntKind.wrap, IntKind.bits, IntKind.signed]
  have q2 : bits .and .u64 (n : Int) 4294967295 = ((n % 4294967296 : Nat) : Int) := by
    rw [show (4294967295 : Int) = ((4294967295 : Nat) : Int) from rfl, bits_and_u64_nat n 4294967295 hn (by decide), show (4294967295 : Nat) = 2 ^ 32 - 1 from rfl, Nat.and_two_pow_sub_one_eq_mod]
  have hU := fixed4_of w.heap.size l v (n % 4294967296) (w.alloc (.cells #[.int .i64 2, .int .u64 (n : Int), sv, .int .i64 m] 28)).drew (hB.below ((Below.refl _ w).alloc (Nat.le_refl _) _).drew) (Nat.mod_lt _ (by decide)) hlen
  have hU' : Calls Try.prog 27 #[v, .int .u32 ((n % 4294967296 : Nat) : Int)] (w.alloc (.cells #[.int .i64 2, .int .u64 (n : Int), sv, .int .i64 m] 28)).drew fun e w1 => ∃ v1, e = .returned v1 ∧ (∀ k, v1.ownBlock = some k → w.heap.size ≤ k ∧ k < w1.heap.size) ∧ Bs w1.heap.size w1 v1 (l ++ fx 4 (n % 4294967296)) ∧ w1.cell? ⟨w.heap.size, 1, none⟩ = some (.int .u64 (n : Int)) ∧ Below w.heap.size w w1 :=
    hU.mono fun e w1 ⟨v1, he, hO, hb⟩ => ⟨v1, he, fun k hk => ⟨box_base (World.ownsRow.lt hO k hk).1, (World.ownsRow.lt hO k hk).2⟩, hO.bs, box_cell hb 1, box_below hb⟩
  have hR : ∀ W, Calls Try.prog 28 #[.int .u64 ((n % 4294967296 : Nat) : Int), .int .i64 4] W fun e w1 => ∃ v1, e = .returned v1 ∧ Bs w1.heap.size w1 v1 (fx 4 (n % 4294967296)) ∧ Below W.heap.size W w1 :=
    fun W => (refFixed_of 4 (n % 4294967296) W (by omega) (by decide)).mono fun e w1 ⟨v1, he, hO, hb⟩ => ⟨v1, he, hO.bs, hb⟩
  clear hU
  go_enter Try.func8, Try.ntmps8
  go_wp2
  go_region_with (first | (go_at_call 27; refine hU'.mono ?_; rintro e w1 ⟨v1, rfl, hF1, hB1, hc1, hb1⟩) | (go_at_call 28; refine (hR _).mono ?_; rintro e w2 ⟨v2, rfl, hB2, hb2⟩))
  all_goals go_wp2
  all_goals go_ret2
  all_goals exact ⟨_, _, rfl, fun k hk => .inl ⟨(hF1 k hk).1, Nat.lt_of_lt_of_le (hF1 k hk).2 hb2.size⟩, (hB1.below hb2).mono hb2.size, hB2, hb1.trans (hb2.mono hb1.size)⟩

set_option maxHeartbeats 2000000 in
theorem written_3 (l : List Nat) (v : Value) (n : Nat) (sv : Value) (m : Int) (w : World) (hB : Bs w.heap.size w v l) (hn : n < 18446744073709551616) (hlen : l.length ≤ 140737488355000) :
    Calls Try.prog 8 #[v, .agg #[.int .i64 3, .int .u64 (n : Int), sv, .int .i64 m]] w (Wrote w v l (fx 8 n)) := by
  have hU := fixed8_of w.heap.size l v n (w.alloc (.cells #[.int .i64 3, .int .u64 (n : Int), sv, .int .i64 m] 28)).drew (hB.below ((Below.refl _ w).alloc (Nat.le_refl _) _).drew) hn hlen
  have hU' : Calls Try.prog 29 #[v, .int .u64 (n : Int)] (w.alloc (.cells #[.int .i64 3, .int .u64 (n : Int), sv, .int .i64 m] 28)).drew fun e w1 => ∃ v1, e = .returned v1 ∧ (∀ k, v1.ownBlock = some k → w.heap.size ≤ k ∧ k < w1.heap.size) ∧ Bs w1.heap.size w1 v1 (l ++ fx 8 n) ∧ w1.cell? ⟨w.heap.size, 1, none⟩ = some (.int .u64 (n : Int)) ∧ Below w.heap.size w w1 :=
    hU.mono fun e w1 ⟨v1, he, hO, hb⟩ => ⟨v1, he, fun k hk => ⟨box_base (World.ownsRow.lt hO k hk).1, (World.ownsRow.lt hO k hk).2⟩, hO.bs, box_cell hb 1, box_below hb⟩
  have hR : ∀ W, Calls Try.prog 28 #[.int .u64 (n : Int), .int .i64 8] W fun e w1 => ∃ v1, e = .returned v1 ∧ Bs w1.heap.size w1 v1 (fx 8 n) ∧ Below W.heap.size W w1 :=
    fun W => (refFixed_of 8 n W hn (by decide)).mono fun e w1 ⟨v1, he, hO, hb⟩ => ⟨v1, he, hO.bs, hb⟩
  clear hU
  go_enter Try.func8, Try.ntmps8
  go_wp2
  go_region_with (first | (go_at_call 29; refine hU'.mono ?_; rintro e w1 ⟨v1, rfl, hF1, hB1, hc1, hb1⟩) | (go_at_call 28; refine (hR _).mono ?_; rintro e w2 ⟨v2, rfl, hB2, hb2⟩))
  all_goals go_wp2
  all_goals go_ret2
  all_goals exact ⟨_, _, rfl, fun k hk => .inl ⟨(hF1 k hk).1, Nat.lt_of_lt_of_le (hF1 k hk).2 hb2.size⟩, (hB1.below hb2).mono hb2.size, hB2, hb1.trans (hb2.mono hb1.size)⟩

end Go.Proofs.Ytjimippblgddbaa
