/- The law's own reads, item by item's kind: both readers tell the same, and stand alike. -/
import Derived.Test.YtjimippblgddbaaReads
namespace Go.Proofs.Ytjimippblgddbaa
open Go.RowKit WireMath
set_option maxRecDepth 100000
set_option linter.unusedSimpArgs false

theorem Two.drewN {n₀ q r : Nat} {l : List Nat} {a b : Nat} {w : World} (h : Two n₀ w q r l a b) (k : Nat) : Two n₀ (w.drewN k) q r l a b := ⟨h.1.drewN k, h.2.1.drewN k, h.2.2⟩
theorem Two.below {n₀ q r : Nat} {l : List Nat} {a b : Nat} {w w' : World} (h : Two n₀ w q r l a b) (hb : Below w.heap.size w w') : Two n₀ w' q r l a b := ⟨h.1.below hb, h.2.1.below hb, h.2.2⟩

set_option maxHeartbeats 8000000 in
theorem reads_0 (n₀ q r : Nat) (l : List Nat) (a b : Nat) (n : Nat) (sv : Value) (m : Int) (w : World) (h : Two n₀ w q r l a b) (hl : ∀ c ∈ l, c < 256) :
    Calls Try.prog 12 #[.pointer (some ⟨q, 0, none⟩), .pointer (some ⟨r, 0, none⟩), .agg #[.int .i64 0, .int .u64 (n : Int), sv, .int .i64 m]] w (Left2 n₀ w q r l) := by
  obtain ⟨hR, hS, hq, hqr⟩ := h
  go_enter Try.func12, Try.ntmps12
  have b0 : Below w.heap.size w (w.alloc (.cells #[.int .i64 0, .int .u64 (n : Int), sv, .int .i64 m] 28)) := (Below.refl _ w).alloc (Nat.le_refl _) _
  have hn0 : n₀ ≤ w.heap.size := by have := hR.lt; omega
  go_wp2_with fail
  refine (uvarint_m q l a b _ (hR.below b0) hl).mono ?_
  rintro e w1 ⟨rfl, hR1, k1⟩
  have hS1 := (hS.below b0).kp k1 hq (by omega)
  go_wp2_with fail
  refine (ruv_of n₀ r l a b _ hS1 hl).mono ?_
  rintro e w2 ⟨rfl, hS2, k2⟩
  have hT : Two n₀ w2 q r l _ _ := ⟨hR1.kp k2 hqr, hS2, hq, hqr⟩
  have hB : Below n₀ w w2 := ((b0.mono hn0).trans (k1.below hq (Nat.le_trans hn0 b0.size))).trans (k2.below (by omega) (Nat.le_trans hn0 (Nat.le_trans b0.size k1.size)))
  clear hR hS hR1 hS1 hS2 k1 k2 b0
  generalize uvN l a b = N at *
  generalize uvA l a b = A at *
  generalize uvE l a b = E at *
  obtain ⟨⟨ao, cap, d0⟩, d1, d2, c2, q1⟩ := hT.facts
  go_wp2_with fail
  go_quiet (first | (go_at_call 20; exact Calls.quiet_of_same (err_of q E _ c2)) | (go_at_call 19; exact Calls.quiet_of (left_q q l A E _ (hT.1.drewN _))) | (go_at_call 18; exact Calls.quiet_of (done_q q l A E _ (hT.1.drewN _))) | (go_at_call 38; exact Calls.quiet_of (rdone_q n₀ r l A E _ (hT.2.1.drewN _))))
  go_wp2
  go_ret
  exact ⟨rfl, ⟨A, E, hT.drewN nq⟩, below_drewN hB nq⟩

set_option maxHeartbeats 8000000 in
theorem reads_1 (n₀ q r : Nat) (l : List Nat) (a b : Nat) (n : Nat) (sv : Value) (m : Int) (w : World) (h : Two n₀ w q r l a b) (hl : ∀ c ∈ l, c < 256) :
    Calls Try.prog 12 #[.pointer (some ⟨q, 0, none⟩), .pointer (some ⟨r, 0, none⟩), .agg #[.int .i64 1, .int .u64 (n : Int), sv, .int .i64 m]] w (Left2 n₀ w q r l) := by
  obtain ⟨hR, hS, hq, hqr⟩ := h
  go_enter Try.func12, Try.ntmps12
  have b0 : Below w.heap.size w (w.alloc (.cells #[.int .i64 1, .int .u64 (n : Int), sv, .int .i64 m] 28)) := (Below.refl _ w).alloc (Nat.le_refl _) _
  have hn0 : n₀ ≤ w.heap.size := by have := hR.lt; omega
  go_wp2_with fail
  refine (varint_m q l a b _ (hR.below b0) hl).mono ?_
  rintro e w1 ⟨rfl, hR1, k1⟩
  have hS1 := (hS.below b0).kp k1 hq (by omega)
  go_wp2_with fail
  refine (rvar_of n₀ r l a b _ hS1 hl).mono ?_
  rintro e w2 ⟨rfl, hS2, k2⟩
  have hT : Two n₀ w2 q r l _ _ := ⟨hR1.kp k2 hqr, hS2, hq, hqr⟩
  have hB : Below n₀ w w2 := ((b0.mono hn0).trans (k1.below hq (Nat.le_trans hn0 b0.size))).trans (k2.below (by omega) (Nat.le_trans hn0 (Nat.le_trans b0.size k1.size)))
  clear hR hS hR1 hS1 hS2 k1 k2 b0
  generalize unzz (uvN l a b) = N at *
  generalize uvA l a b = A at *
  generalize uvE l a b = E at *
  obtain ⟨⟨ao, cap, d0⟩, d1, d2, c2, q1⟩ := hT.facts
  go_wp2_with fail
  go_quiet (first | (go_at_call 20; exact Calls.quiet_of_same (err_of q E _ c2)) | (go_at_call 19; exact Calls.quiet_of (left_q q l A E _ (hT.1.drewN _))) | (go_at_call 18; exact Calls.quiet_of (done_q q l A E _ (hT.1.drewN _))) | (go_at_call 38; exact Calls.quiet_of (rdone_q n₀ r l A E _ (hT.2.1.drewN _))))
  go_wp2
  go_ret
  exact ⟨rfl, ⟨A, E, hT.drewN nq⟩, below_drewN hB nq⟩

set_option maxHeartbeats 8000000 in
theorem reads_2 (n₀ q r : Nat) (l : List Nat) (a b : Nat) (n : Nat) (sv : Value) (m : Int) (w : World) (h : Two n₀ w q r l a b) (hl : ∀ c ∈ l, c < 256) :
    Calls Try.prog 12 #[.pointer (some ⟨q, 0, none⟩), .pointer (some ⟨r, 0, none⟩), .agg #[.int .i64 2, .int .u64 (n : Int), sv, .int .i64 m]] w (Left2 n₀ w q r l) := by
  obtain ⟨hR, hS, hq, hqr⟩ := h
  have hN : fxN l a b 4 < 4294967296 := fxN_lt hl
  go_enter Try.func12, Try.ntmps12
  have b0 : Below w.heap.size w (w.alloc (.cells #[.int .i64 2, .int .u64 (n : Int), sv, .int .i64 m] 28)) := (Below.refl _ w).alloc (Nat.le_refl _) _
  have hn0 : n₀ ≤ w.heap.size := by have := hR.lt; omega
  go_wp2_with fail
  refine (fixed4_m q l a b _ (hR.below b0) hl).mono ?_
  rintro e w1 ⟨rfl, hR1, k1⟩
  have hS1 := (hS.below b0).kp k1 hq (by omega)
  go_wp2_with fail
  refine (rfix_of n₀ r l a b 4 _ hS1 hl (by decide) (by decide)).mono ?_
  rintro e w2 ⟨rfl, hS2, k2⟩
  have hT : Two n₀ w2 q r l _ _ := ⟨hR1.kp k2 hqr, hS2, hq, hqr⟩
  have hB : Below n₀ w w2 := ((b0.mono hn0).trans (k1.below hq (Nat.le_trans hn0 b0.size))).trans (k2.below (by omega) (Nat.le_trans hn0 (Nat.le_trans b0.size k1.size)))
  clear hR hS hR1 hS1 hS2 k1 k2 b0
  generalize fxN l a b 4 = N at *
  generalize fxA l a b 4 = A at *
  generalize fxE l a b 4 = E at *
  obtain ⟨⟨ao, cap, d0⟩, d1, d2, c2, q1⟩ := hT.facts
  go_wp2_with fail
  go_quiet (first | (go_at_call 20; exact Calls.quiet_of_same (err_of q E _ c2)) | (go_at_call 19; exact Calls.quiet_of (left_q q l A E _ (hT.1.drewN _))) | (go_at_call 18; exact Calls.quiet_of (done_q q l A E _ (hT.1.drewN _))) | (go_at_call 38; exact Calls.quiet_of (rdone_q n₀ r l A E _ (hT.2.1.drewN _))))
  go_wp2
  go_ret
  exact ⟨rfl, ⟨A, E, hT.drewN nq⟩, below_drewN hB nq⟩

set_option maxHeartbeats 8000000 in
theorem reads_3 (n₀ q r : Nat) (l : List Nat) (a b : Nat) (n : Nat) (sv : Value) (m : Int) (w : World) (h : Two n₀ w q r l a b) (hl : ∀ c ∈ l, c < 256) :
    Calls Try.prog 12 #[.pointer (some ⟨q, 0, none⟩), .pointer (some ⟨r, 0, none⟩), .agg #[.int .i64 3, .int .u64 (n : Int), sv, .int .i64 m]] w (Left2 n₀ w q r l) := by
  obtain ⟨hR, hS, hq, hqr⟩ := h
  go_enter Try.func12, Try.ntmps12
  have b0 : Below w.heap.size w (w.alloc (.cells #[.int .i64 3, .int .u64 (n : Int), sv, .int .i64 m] 28)) := (Below.refl _ w).alloc (Nat.le_refl _) _
  have hn0 : n₀ ≤ w.heap.size := by have := hR.lt; omega
  go_wp2_with fail
  refine (fixed8_m q l a b _ (hR.below b0) hl).mono ?_
  rintro e w1 ⟨rfl, hR1, k1⟩
  have hS1 := (hS.below b0).kp k1 hq (by omega)
  go_wp2_with fail
  refine (rfix_of n₀ r l a b 8 _ hS1 hl (by decide) (by decide)).mono ?_
  rintro e w2 ⟨rfl, hS2, k2⟩
  have hT : Two n₀ w2 q r l _ _ := ⟨hR1.kp k2 hqr, hS2, hq, hqr⟩
  have hB : Below n₀ w w2 := ((b0.mono hn0).trans (k1.below hq (Nat.le_trans hn0 b0.size))).trans (k2.below (by omega) (Nat.le_trans hn0 (Nat.le_trans b0.size k1.size)))
  clear hR hS hR1 hS1 hS2 k1 k2 b0
  generalize fxN l a b 8 = N at *
  generalize fxA l a b 8 = A at *
  generalize fxE l a b 8 = E at *
  obtain ⟨⟨ao, cap, d0⟩, d1, d2, c2, q1⟩ := hT.facts
  go_wp2_with fail
  go_quiet (first | (go_at_call 20; exact Calls.quiet_of_same (err_of q E _ c2)) | (go_at_call 19; exact Calls.quiet_of (left_q q l A E _ (hT.1.drewN _))) | (go_at_call 18; exact Calls.quiet_of (done_q q l A E _ (hT.1.drewN _))) | (go_at_call 38; exact Calls.quiet_of (rdone_q n₀ r l A E _ (hT.2.1.drewN _))))
  go_wp2
  go_ret
  exact ⟨rfl, ⟨A, E, hT.drewN nq⟩, below_drewN hB nq⟩

set_option maxHeartbeats 8000000 in
theorem reads_4 (n₀ q r : Nat) (l : List Nat) (a b : Nat) (n : Nat) (sv : Value) (m : Int) (w : World) (h : Two n₀ w q r l a b) (hl : ∀ c ∈ l, c < 256) :
    Calls Try.prog 12 #[.pointer (some ⟨q, 0, none⟩), .pointer (some ⟨r, 0, none⟩), .agg #[.int .i64 4, .int .u64 (n : Int), sv, .int .i64 m]] w (Left2 n₀ w q r l) := by
  obtain ⟨hR, hS, hq, hqr⟩ := h
  have hN : fxN l a b 1 < 256 := fxN_lt hl
  go_enter Try.func12, Try.ntmps12
  have b0 : Below w.heap.size w (w.alloc (.cells #[.int .i64 4, .int .u64 (n : Int), sv, .int .i64 m] 28)) := (Below.refl _ w).alloc (Nat.le_refl _) _
  have hn0 : n₀ ≤ w.heap.size := by have := hR.lt; omega
  go_wp2_with fail
  refine (byte_m q l a b _ (hR.below b0) hl).mono ?_
  rintro e w1 ⟨rfl, hR1, k1⟩
  have hS1 := (hS.below b0).kp k1 hq (by omega)
  go_wp2_with fail
  refine (rfix_of n₀ r l a b 1 _ hS1 hl (by decide) (by decide)).mono ?_
  rintro e w2 ⟨rfl, hS2, k2⟩
  have hT : Two n₀ w2 q r l _ _ := ⟨hR1.kp k2 hqr, hS2, hq, hqr⟩
  have hB : Below n₀ w w2 := ((b0.mono hn0).trans (k1.below hq (Nat.le_trans hn0 b0.size))).trans (k2.below (by omega) (Nat.le_trans hn0 (Nat.le_trans b0.size k1.size)))
  clear hR hS hR1 hS1 hS2 k1 k2 b0
  generalize fxN l a b 1 = N at *
  generalize fxA l a b 1 = A at *
  generalize fxE l a b 1 = E at *
  obtain ⟨⟨ao, cap, d0⟩, d1, d2, c2, q1⟩ := hT.facts
  go_wp2_with fail
  go_quiet (first | (go_at_call 20; exact Calls.quiet_of_same (err_of q E _ c2)) | (go_at_call 19; exact Calls.quiet_of (left_q q l A E _ (hT.1.drewN _))) | (go_at_call 18; exact Calls.quiet_of (done_q q l A E _ (hT.1.drewN _))) | (go_at_call 38; exact Calls.quiet_of (rdone_q n₀ r l A E _ (hT.2.1.drewN _))))
  go_wp2
  go_ret
  exact ⟨rfl, ⟨A, E, hT.drewN nq⟩, below_drewN hB nq⟩

set_option maxHeartbeats 8000000 in
theorem reads_5 (n₀ q r : Nat) (l : List Nat) (a b : Nat) (n : Nat) (sv : Value) (m : Int) (w : World) (h : Two n₀ w q r l a b) (hl : ∀ c ∈ l, c < 256) (hm2 : m ≤ 9223372036854775807) :
    Calls Try.prog 12 #[.pointer (some ⟨q, 0, none⟩), .pointer (some ⟨r, 0, none⟩), .agg #[.int .i64 5, .int .u64 (n : Int), sv, .int .i64 m]] w (Left2 n₀ w q r l) := by
  obtain ⟨hR, hS, hq, hqr⟩ := h
  have b0 : Below w.heap.size w (w.alloc (.cells #[.int .i64 5, .int .u64 (n : Int), sv, .int .i64 m] 28)).drew := ((Below.refl _ w).alloc (Nat.le_refl _) _).drew
  have hn0 : n₀ ≤ w.heap.size := by have := hR.lt; omega
  have x0 : (w.alloc (.cells #[.int .i64 5, .int .u64 (n : Int), sv, .int .i64 m] 28)).cell? ⟨w.heap.size, 3, none⟩ = some (.int .i64 m) := by rw [cells_of_block (heap_alloc_new w _)]; rfl
  have hql := hR.lt
  have hrl := hS.lt
  have hN : Calls Try.prog 24 #[.pointer (some ⟨q, 0, none⟩), .int .i64 m] (w.alloc (.cells #[.int .i64 5, .int .u64 (n : Int), sv, .int .i64 m] 28)).drew fun e w' => e = .returned (.int .i64 (nuN l a b m : Int)) ∧ w'.cell? ⟨w.heap.size, 3, none⟩ = some (.int .i64 m) ∧ (Rd w' q l (nuA l a b m) (nuE l a b m) ∧ Rr n₀ w' r l a b ∧ Below n₀ w w') :=
    (number_m q l a b m _ (hR.below b0) hl hm2).mono fun e w' ⟨he, h1, k1⟩ => ⟨he, k1.cell (a := ⟨w.heap.size, 3, none⟩) x0 (fun e => absurd (by simpa using e : w.heap.size = q) (by omega)), h1, (hS.below b0).kp k1 hq (by omega), (b0.mono hn0).trans (k1.below hq (Nat.le_trans hn0 b0.size))⟩
  have hM : ∀ W, W.cell? ⟨w.heap.size, 3, none⟩ = some (.int .i64 m) → (Rd W q l (nuA l a b m) (nuE l a b m) ∧ Rr n₀ W r l a b ∧ Below n₀ w W) → Calls Try.prog 36 #[.pointer (some ⟨r, 0, none⟩), .int .i64 m] W fun e w' => e = .returned (.int .i64 (nuN l a b m : Int)) ∧ w'.cell? ⟨w.heap.size, 3, none⟩ = some (.int .i64 m) ∧ Two n₀ w' q r l (nuA l a b m) (nuE l a b m) ∧ Below n₀ w w' :=
    fun W x1 ⟨h1, s1, hB1⟩ => (rnum_of n₀ r l a b m W s1 hl hm2).mono fun e w' ⟨he, h2, k2⟩ => ⟨he, k2.cell (a := ⟨w.heap.size, 3, none⟩) x1 (fun e => absurd (by simpa using e : w.heap.size = r) (by omega)), ⟨h1.kp k2 hqr, h2, hq, hqr⟩, hB1.trans (k2.below (by omega) (Nat.le_trans hn0 hB1.size))⟩
  clear b0 hR hS
  generalize nuN l a b m = N at *
  generalize nuA l a b m = A at *
  generalize nuE l a b m = E at *
  go_enter Try.func12, Try.ntmps12
  go_wp2_with fail
  go_region_held3 (fun w' => w'.cell? ⟨w.heap.size, 3, none⟩ = some (.int .i64 m))
    (first | go_keep | exact x2 | exact x1)
    ((first | (go_at_call 24; refine hN.mono ?_; rintro e w1 ⟨rfl, x1, h1⟩) | (go_at_call 36; refine (hM _ x1 h1).mono ?_; rintro e w2 ⟨rfl, x2, hT, hB⟩)))
  clear hN hM h1
  obtain ⟨⟨ao, cap, d0⟩, d1, d2, c2, q1⟩ := hT.facts
  go_wp2_with fail
  go_quiet (first | (go_at_call 20; exact Calls.quiet_of_same (err_of q E _ c2)) | (go_at_call 19; exact Calls.quiet_of (left_q q l A E _ (hT.1.drewN _))) | (go_at_call 18; exact Calls.quiet_of (done_q q l A E _ (hT.1.drewN _))) | (go_at_call 38; exact Calls.quiet_of (rdone_q n₀ r l A E _ (hT.2.1.drewN _))))
  go_wp2
  go_ret
  exact ⟨rfl, ⟨A, E, hT.drewN nq⟩, below_drewN hB nq⟩

set_option maxHeartbeats 8000000 in
theorem reads_6 (n₀ q r : Nat) (l : List Nat) (a b : Nat) (d : Int) (n : Nat) (sv : Value) (m : Int) (w : World) (h : Two n₀ w q r l a b) (hl : ∀ c ∈ l, c < 256) (hm2 : m ≤ 9223372036854775807) (hlen : l.length ≤ 140737488355328) (g0 : d ≠ 0) (g1 : d ≠ 1) (g2 : d ≠ 2) (g3 : d ≠ 3) (g4 : d ≠ 4) (g5 : d ≠ 5) :
    Calls Try.prog 12 #[.pointer (some ⟨q, 0, none⟩), .pointer (some ⟨r, 0, none⟩), .agg #[.int .i64 d, .int .u64 (n : Int), sv, .int .i64 m]] w (Left2 n₀ w q r l) := by
  obtain ⟨hR, hS, hq, hqr⟩ := h
  have b0 : Below w.heap.size w (w.alloc (.cells #[.int .i64 d, .int .u64 (n : Int), sv, .int .i64 m] 28)).drew := ((Below.refl _ w).alloc (Nat.le_refl _) _).drew
  have hn0 : n₀ ≤ w.heap.size := by have := hR.lt; omega
  have x0 : (w.alloc (.cells #[.int .i64 d, .int .u64 (n : Int), sv, .int .i64 m] 28)).cell? ⟨w.heap.size, 3, none⟩ = some (.int .i64 m) := by rw [cells_of_block (heap_alloc_new w _)]; rfl
  have hql := hR.lt
  have hrl := hS.lt
  have hN : Calls Try.prog 17 #[.pointer (some ⟨q, 0, none⟩), .int .i64 m] (w.alloc (.cells #[.int .i64 d, .int .u64 (n : Int), sv, .int .i64 m] 28)).drew fun e w' => ∃ v, e = .returned v ∧ w'.cell? ⟨w.heap.size, 3, none⟩ = some (.int .i64 m) ∧ (Rd w' q l (byA l a b m) (byE l a b m) ∧ Rr n₀ w' r l a b ∧ Below n₀ w w' ∧ Bs w'.heap.size w' v (byL l a b m)) :=
    (bytes_m q l a b m _ (hR.below b0) hl hm2 hlen).mono fun e w' ⟨v, he, hv, h1, k1⟩ => ⟨v, he, k1.cell (a := ⟨w.heap.size, 3, none⟩) x0 (fun e => absurd (by simpa using e : w.heap.size = q) (by omega)), h1, (hS.below b0).kp k1 hq (by omega), (b0.mono hn0).trans (k1.below hq (Nat.le_trans hn0 b0.size)), hv⟩
  have hM : ∀ W v1, W.cell? ⟨w.heap.size, 3, none⟩ = some (.int .i64 m) → (Rd W q l (byA l a b m) (byE l a b m) ∧ Rr n₀ W r l a b ∧ Below n₀ w W ∧ Bs W.heap.size W v1 (byL l a b m)) → Calls Try.prog 37 #[.pointer (some ⟨r, 0, none⟩), .int .i64 m] W fun e w' => ∃ v, e = .returned v ∧ w'.cell? ⟨w.heap.size, 3, none⟩ = some (.int .i64 m) ∧ Two n₀ w' q r l (byA l a b m) (byE l a b m) ∧ Below n₀ w w' ∧ Bs w'.heap.size w' v1 (byL l a b m) ∧ Bs w'.heap.size w' v (byL l a b m) :=
    fun W v1 x1 ⟨h1, s1, hB1, hv1⟩ => (rbytes_of n₀ r l a b m W s1 hl hm2 hlen).mono fun e w' ⟨v, he, hv, h2, k2⟩ => ⟨v, he, k2.cell (a := ⟨w.heap.size, 3, none⟩) x1 (fun e => absurd (by simpa using e : w.heap.size = r) (by omega)), ⟨h1.kp k2 hqr, h2, hq, hqr⟩, hB1.trans (k2.below (by omega) (Nat.le_trans hn0 hB1.size)), (hv1.kpR s1 k2).mono k2.size, hv⟩
  have hlb := byL_bytes (a := a) (b := b) (m := m) hl
  have hSm : ∀ W v1 v2, Bs W.heap.size W v1 (byL l a b m) → Bs W.heap.size W v2 (byL l a b m) → Calls Try.prog 9 #[v1, v2] W fun e w' => e = .returned (.bool true) ∧ w' = W := fun W v1 v2 hv1 hv2 => same_of _ _ _ v1 v2 W hv1 hv2 hlb
  clear b0 hR hS hlb
  generalize byL l a b m = L at *
  generalize byA l a b m = A at *
  generalize byE l a b m = E at *
  go_enter Try.func12, Try.ntmps12
  go_wp2_with fail
  go_region_held3 (fun w' => w'.cell? ⟨w.heap.size, 3, none⟩ = some (.int .i64 m))
    (first | go_keep | exact x2 | exact x1)
    ((first | (go_at_call 17; refine hN.mono ?_; rintro e w1 ⟨v1, rfl, x1, h1⟩) | (go_at_call 37; refine (hM _ _ x1 h1).mono ?_; rintro e w2 ⟨v2, rfl, x2, hT, hB, hv1, hv2⟩) | (go_at_call 9; refine (hSm _ _ _ hv1 hv2).mono ?_; rintro e w3 ⟨rfl, hw3⟩; rw [hw3]; clear hw3 w3)))
  clear hN hM hSm h1
  obtain ⟨⟨ao, cap, d0⟩, d1, d2, c2, q1⟩ := hT.facts
  go_wp2_with fail
  go_quiet (first | (go_at_call 20; exact Calls.quiet_of_same (err_of q E _ c2)) | (go_at_call 19; exact Calls.quiet_of (left_q q l A E _ (hT.1.drewN _))) | (go_at_call 18; exact Calls.quiet_of (done_q q l A E _ (hT.1.drewN _))) | (go_at_call 38; exact Calls.quiet_of (rdone_q n₀ r l A E _ (hT.2.1.drewN _))))
  go_wp2
  go_ret
  exact ⟨rfl, ⟨A, E, hT.drewN nq⟩, below_drewN hB nq⟩

end Go.Proofs.Ytjimippblgddbaa
