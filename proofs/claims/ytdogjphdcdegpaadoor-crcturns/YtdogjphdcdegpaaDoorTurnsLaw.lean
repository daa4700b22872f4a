/- The law CrcTurns: true at any bytes and any three places of bits; what lay in memory before stays as it was. -/
import Derived.Test.YtdogjphdcdegpaaDoorStr
import Derived.Deep.RegionHeld3
namespace Go.Proofs.YtdogjphdcdegpaaDoor
open Go.RowKit CrcMath
set_option maxRecDepth 100000
set_option linter.unusedSimpArgs false

set_option maxHeartbeats 1000000 in
theorem turns_none (l : List Nat) (v : Value) (b0 b1 b2 : Nat) (w : World) (hT : Tab w) (hB : Bs w.heap.size w v l) (h : l.length = 0 ∨ 256 < l.length) :
    Calls Tryd.prog 6 #[v, .agg #[.int .u16 (b0 : Int), .int .u16 (b1 : Int), .int .u16 (b2 : Int)]] w fun e w' => e = .returned (.bool true) ∧ Below w.heap.size w w' := by
  obtain ⟨ao, cap, rfl, -⟩ := hB
  have hbl := (Below.refl w.heap.size w).alloc (Nat.le_refl _) (.cells #[.int .u16 (b0 : Int), .int .u16 (b1 : Int), .int .u16 (b2 : Int)] 33)
  have k := awake_of _ (hT.below' hbl (Nat.le_refl _))
  have fin : ∀ w', Below (w.alloc (.cells #[.int .u16 (b0 : Int), .int .u16 (b1 : Int), .int .u16 (b2 : Int)] 33)).heap.size (w.alloc (.cells #[.int .u16 (b0 : Int), .int .u16 (b1 : Int), .int .u16 (b2 : Int)] 33)) w' → Below w.heap.size w w' := fun w' hb => hbl.trans (hb.mono hbl.size)
  by_cases h0 : l.length = 0
  · have hi : ((l.length : Int) == 0) = true := by rw [h0]; rfl
    go_enter Tryd.func6, Tryd.ntmps6
    go_wp2_with fail
    refine k.mono ?_
    rintro e w1 ⟨rfl, hb⟩
    go_wp2
    go_ret
    exact ⟨rfl, fin _ hb⟩
  · have hi : ((l.length : Int) == 0) = false := by simp; exact fun h => h0 (by rw [h]; rfl)
    have hj : (256 : Int) < (l.length : Int) := by omega
    go_enter Tryd.func6, Tryd.ntmps6
    go_wp2_with fail
    refine k.mono ?_
    rintro e w1 ⟨rfl, hb⟩
    go_wp2
    go_ret
    exact ⟨rfl, fin _ hb⟩

/-- The bytes behind the first few bits. -/
def turnedBy (l : List Nat) (bs : List Nat) : List Nat := bs.foldl (fun m b => CrcMath.flip m (b % (8 * l.length + 1))) l

theorem str_ne {l r : List Nat} (hl : ∀ c ∈ l, c < 256) (hr : ∀ c ∈ r, c < 256) (h : l ≠ r) : ((str l).toList == (str r).toList) = false := by
  rw [beq_eq_false_iff_ne]
  intro e
  refine h (str_inj hl hr ?_)
  rw [ByteArray.toList_eq, ByteArray.toList_eq] at e
  exact ByteArray.ext (Array.toList_inj.1 e)

theorem flip_lt {l : List Nat} (hl : ∀ c ∈ l, c < 256) (n : Nat) : ∀ c ∈ CrcMath.flip l n, c < 256 := by
  unfold CrcMath.flip
  split
  · rename_i h
    intro c hc
    rcases List.mem_or_eq_of_mem_set hc with hc | rfl
    · exact hl c hc
    · refine Nat.xor_lt_two_pow (n := 8) (hl _ (List.getElem_mem h)) ?_
      exact Nat.pow_lt_pow_right (by decide) (Nat.mod_lt _ (by decide))
  · exact hl

theorem turnedBy_snoc (l bs : List Nat) (b : Nat) : turnedBy l (bs ++ [b]) = CrcMath.flip (turnedBy l bs) (b % (8 * l.length + 1)) := by
  unfold turnedBy
  rw [List.foldl_append]
  rfl
theorem turnedBy_length (l : List Nat) : ∀ (bs : List Nat), (turnedBy l bs).length = l.length := by
  have key : ∀ (bs m : List Nat), (bs.foldl (fun m b => CrcMath.flip m (b % (8 * l.length + 1))) m).length = m.length := by
    intro bs
    induction bs with
    | nil => intro m; rfl
    | cons b r ih => intro m; rw [List.foldl_cons, ih, flip_length]
  exact fun bs => key bs l
theorem turnedBy_lt {l : List Nat} (hl : ∀ c ∈ l, c < 256) : ∀ (bs : List Nat), ∀ c ∈ turnedBy l bs, c < 256 := by
  have key : ∀ (bs m : List Nat), (∀ c ∈ m, c < 256) → ∀ c ∈ bs.foldl (fun m b => CrcMath.flip m (b % (8 * l.length + 1))) m, c < 256 := by
    intro bs
    induction bs with
    | nil => intro m h; exact h
    | cons b r ih => intro m h; rw [List.foldl_cons]; exact ih _ (flip_lt h _)
  exact fun bs => key bs l hl

theorem Own.set {n₀ : Nat} {w : World} {g len cap : Nat} {m : List Nat} (h : Own n₀ w (.slice (some ⟨g, 0, none⟩) len cap) m) (j c : Nat) :
    Own n₀ (w.setCell ⟨g, j, none⟩ (.int .u8 (c : Int))) (.slice (some ⟨g, 0, none⟩) len cap) (m.set j c) := by
  obtain ⟨h1, ⟨h2, _⟩ | ⟨g', cap', cur, h2, hg, hb, hle, hm, hsz, ht⟩⟩ := h
  · cases h2
  · cases h2
    refine ⟨by rw [bc_length, List.length_set, Nat.mul_one], .inr ⟨g, cap, cur.setIfInBounds j (.int .u8 (c : Int)), by rw [List.length_set], hg, heap_setCell_same w g j cur _ _ hb, by rw [List.length_set]; exact hle, hm, by rw [Array.size_setIfInBounds]; exact hsz, ?_⟩⟩
    rw [List.length_set, Array.toList_setIfInBounds, List.take_set, ht]
    simp [bc, List.map_set]

theorem Own.at {n₀ : Nat} {w : World} {v : Value} {m : List Nat} (h : Own n₀ w v m) (hm : m ≠ []) : ∃ g cap, v = .slice (some ⟨g, 0, none⟩) m.length cap ∧ n₀ ≤ g := by
  obtain ⟨h1, ⟨h2, h3⟩ | ⟨g, cap, cur, h2, hg, _⟩⟩ := h
  · exact absurd (List.eq_nil_of_length_eq_zero h3) hm
  · exact ⟨g, cap, h2, hg⟩
theorem Own.spots {n₀ : Nat} {w : World} {g len cap : Nat} {m : List Nat} (h : Own n₀ w (.slice (some ⟨g, 0, none⟩) len cap) m) :
    (∀ (j c : Nat), m[j]? = some c → w.cell? ⟨g, j, none⟩ = some (.int .u8 (c : Int))) ∧ ∀ j, w.frozen? ⟨g, j, none⟩ = false := by
  obtain ⟨h1, ⟨h2, h3⟩ | ⟨g, cap, cur, h2, hg, hb, hle, hm', hsz, ht⟩⟩ := h
  · cases h2
  · cases h2
    refine ⟨fun j c hj => ?_, fun j => by simp [World.frozen?, hb]⟩
    rw [cells_of_block hb]
    have h1 : (bc m)[j]? = some (.int .u8 (c : Int)) := by simp [bc, hj]
    rw [← ht, List.getElem?_take] at h1
    split at h1
    · simpa using h1
    · cases h1

set_option maxHeartbeats 1000000 in
theorem turns_some (l : List Nat) (v : Value) (b0 b1 b2 : Nat) (w : World) (hT : Tab w) (hB : Bs w.heap.size w v l) (hl : ∀ c ∈ l, c < 256) (h0 : l.length ≠ 0) (h1 : l.length ≤ 256) (hb0 : b0 < 65536) (hb1 : b1 < 65536) (hb2 : b2 < 65536) :
    Calls Tryd.prog 6 #[v, .agg #[.int .u16 (b0 : Int), .int .u16 (b1 : Int), .int .u16 (b2 : Int)]] w fun e w' => e = .returned (.bool true) ∧ Below w.heap.size w w' := by
  have hbl := (Below.refl w.heap.size w).alloc (Nat.le_refl _) (.cells #[.int .u16 (b0 : Int), .int .u16 (b1 : Int), .int .u16 (b2 : Int)] 33)
  have hbits := heap_alloc_new w (.cells #[.int .u16 (b0 : Int), .int .u16 (b1 : Int), .int .u16 (b2 : Int)] 33)
  have hszA : (w.alloc (.cells #[.int .u16 (b0 : Int), .int .u16 (b1 : Int), .int .u16 (b2 : Int)] 33)).heap.size = w.heap.size + 1 := by simp
  have hO := own_new (w.alloc (.cells #[.int .u16 (b0 : Int), .int .u16 (b1 : Int), .int .u16 (b2 : Int)] 33)) #[] [] rfl (by simp)
  have hbl2 := (Below.refl _ (w.alloc (.cells #[.int .u16 (b0 : Int), .int .u16 (b1 : Int), .int .u16 (b2 : Int)] 33))).alloc (Nat.le_refl _) (.cells #[] 5)
  have hB1 := hB.below (hbl.trans (hbl2.mono hbl.size))
  rw [hszA] at hO
  have hsz2 := hbl2.size
  rw [hszA] at hbl2 hsz2
  have hc1 : (([] : List Nat).length + l.length) ≤ 140737488355328 := by simp; omega
  obtain ⟨ao, cap, rfl, -⟩ := id hB
  have hi : ((l.length : Int) == 0) = false := by simp; exact fun h => h0 (by rw [h]; rfl)
  have hj : ¬ (256 : Int) < (l.length : Int) := by omega
  go_enter Tryd.func6, Tryd.ntmps6
  go_wp2_with (at_builtin; refine wpList_append_bs rfl _ _ rfl _ _ [] rfl hO hsz2 w.heap.size _ l rfl hB1 hc1 ?_)
  intro v1 w1 hO1 hb1'
  generalize w.alloc (.cells #[.int .u16 (b0 : Int), .int .u16 (b1 : Int), .int .u16 (b2 : Int)] 33) = wA at *
  have hbel1 : Below (w.heap.size + 1) wA w1 := hbl2.trans hb1'
  have hO1' : Own (w.heap.size + 1) w1 v1 l := hO1
  clear hO hbl2 hB1 hb1' hO1
  have hAlt : w.heap.size < w.heap.size + 1 := Nat.lt_succ_self _
  obtain ⟨g, cp, rfl, hg⟩ := hO1'.at (by rintro rfl; exact h0 rfl)
  go_wp2
  go_loopg [6] 3 (fun gg s6 wr => ∃ k : Nat, k + gg = 3 ∧ s6 = .int .i64 (k : Int) ∧ Own (w.heap.size + 1) wr (.slice (some ⟨g, 0, none⟩) l.length cp) (turnedBy l ([b0, b1, b2].take k)) ∧ Below (w.heap.size + 1) wA wr)
  case atStart => exact ⟨0, by simp, rfl, hO1', hbel1⟩
  case round =>
    clear hO1' hbel1
    obtain ⟨k, hk, rfl, hO, hbel⟩ := hrel
    have hlt := turnedBy_lt hl ([b0, b1, b2].take k)
    have hln := turnedBy_length l ([b0, b1, b2].take k)
    by_cases hk3 : k < 3
    · have hki : (k : Int) < 3 := by omega
      obtain ⟨b, hbk, hb6, hcell⟩ : ∃ b, turnedBy l ([b0, b1, b2].take (k + 1)) = CrcMath.flip (turnedBy l ([b0, b1, b2].take k)) (b % (8 * l.length + 1)) ∧ b < 65536 ∧ wr.cell? ⟨w.heap.size, k, none⟩ = some (.int .u16 (b : Int)) := by
        have hbk := (hbel.block w.heap.size hAlt).trans hbits
        match k, hk3 with
        | 0, _ => exact ⟨b0, rfl, hb0, by rw [cells_of_block hbk]; rfl⟩
        | 1, _ => exact ⟨b1, rfl, hb1, by rw [cells_of_block hbk]; rfl⟩
        | 2, _ => exact ⟨b2, rfl, hb2, by rw [cells_of_block hbk]; rfl⟩
      have HE : Hid (turnedBy l ([b0, b1, b2].take (k + 1)) = CrcMath.flip (turnedBy l ([b0, b1, b2].take k)) (b % (8 * l.length + 1))) := hbk
      clear hbk
      generalize turnedBy l ([b0, b1, b2].take k) = m at hO hlt hln HE
      have q1 : (b : Int) % (8 * (l.length : Int) + 1) = ((b % (8 * l.length + 1) : Nat) : Int) := by push_cast; rfl
      have q2 : (b : Int).tmod (8 * (l.length : Int) + 1) = ((b % (8 * l.length + 1) : Nat) : Int) := by rw [Int.tmod_eq_emod_of_nonneg (by omega), q1]
      have hn : b % (8 * l.length + 1) < 8 * l.length + 1 := Nat.mod_lt _ (by omega)
      generalize b % (8 * l.length + 1) = n at q1 q2 hn HE
      by_cases hn8 : n < 8 * l.length
      · have hn8i : (n : Int) < 8 * (l.length : Int) := by omega
        obtain ⟨hcs, hfr⟩ := hO.spots
        have hd : n / 8 < m.length := by omega
        have c1 := hcs (n / 8) m[n / 8] (List.getElem?_eq_getElem hd)
        have f1 := hfr (n / 8)
        have hc256 := hlt m[n / 8] (List.getElem_mem hd)
        have hp : (2 : Nat) ^ (n % 8) < 256 := Nat.pow_lt_pow_right (a := 2) (n := 8) (by decide) (Nat.mod_lt _ (by decide))
        have q3 : bits .xor .u8 (m[n / 8] : Int) (2 ^ (n % 8) % 256) = ((m[n / 8] ^^^ 2 ^ (n % 8) : Nat) : Int) := by
          have e : ((2 : Int) ^ (n % 8) % 256) = ((2 ^ (n % 8) : Nat) : Int) := by
            have e1 : ((2 ^ (n % 8) : Nat) : Int) = (2 : Int) ^ (n % 8) := by push_cast; rfl
            rw [← e1]
            generalize (2 : Nat) ^ (n % 8) = p at hp
            omega
          rw [e, u8_xor_nat _ _ hc256 hp]
        have E2 : Hid (turnedBy l ([b0, b1, b2].take (k + 1)) = m.set (n / 8) (m[n / 8] ^^^ 2 ^ (n % 8))) := by
          show _ = _
          rw [HE.out]
          unfold CrcMath.flip
          rw [dif_pos hd]
        have hO2 := hO.set (n / 8) (m[n / 8] ^^^ 2 ^ (n % 8))
        have hbel2 := hbel.setCell (p := ⟨g, n / 8, none⟩) hg (.int .u8 ((m[n / 8] ^^^ 2 ^ (n % 8) : Nat) : Int))
        clear hcs hfr HE hO
        go_wp2
        go_roundg (gk - 1)
        case measure => omega
        case rel => exact ⟨k + 1, by omega, by go_num, by rw [E2.out]; exact hO2, hbel2⟩
      · have hn8i : ¬ (n : Int) < 8 * (l.length : Int) := by omega
        have E2 : Hid (turnedBy l ([b0, b1, b2].take (k + 1)) = m) := by
          show _ = _
          rw [HE.out]
          exact flip_none (by omega)
        clear HE
        go_wp2
        go_roundg (gk - 1)
        case measure => omega
        case rel => exact ⟨k + 1, by omega, by go_num, by rw [E2.out]; exact hO, hbel⟩
    · have hki : ¬ (k : Int) < 3 := by omega
      obtain rfl : k = 3 := by omega
      have hmm : Hid (crcSum (turnedBy l ([b0, b1, b2].take 3)) = crcSum l ↔ turnedBy l ([b0, b1, b2].take 3) = l) := by
        show _ ↔ _
        rw [crcSum_eq]
        exact few l h1 4294967295 _ _ _
      generalize turnedBy l ([b0, b1, b2].take 3) = m at hO hlt hln hmm
      have hbelw : Below w.heap.size w wr := hbl.trans (hbel.mono (Nat.le_succ _))
      have hd : Below w.heap.size w wr.drew := hbelw.drew
      have hBb := hB.below hd
      have hBc : Bs wr.heap.size wr.drew (.slice (some ⟨g, 0, none⟩) l.length cp) m := hO.bs.below (Below.refl _ _).drew
      have hT1 := hT.below' hd (Nat.le_refl _)
      have k1 := of_of _ m _ wr.drew hT1 hBc hlt
      have k2 := of_of _ l _ wr.drew hT1 hBb hl
      have k5 := awake_of wr.drew hT1
      have hS : ∀ w', Below wr.heap.size wr.drew w' → (convert 22 9 (.slice (some ⟨g, 0, none⟩) l.length cp)).run Tryd.prog w' = .ok (.string (str m)) w' ∧ (convert 22 9 (.slice ao l.length cap)).run Tryd.prog w' = .ok (.string (str l)) w' := fun w' hb =>
        ⟨str_of (hBc.below hb) hlt, str_of (hBb.below (hb.mono hbelw.size)) hl⟩
      clear hB hO hbel hbl hbits hT hT1
      by_cases hml : m = l
      · subst hml
        have hsi : ((crcSum m : Int) == (crcSum m : Int)) = true := by simp
        have hst : ((str m).toList == (str m).toList) = true := by simp
        go_wp2
        go_region_held3 (fun w' => (convert 22 9 (.slice (some ⟨g, 0, none⟩) m.length cp)).run Tryd.prog w' = .ok (.string (str m)) w' ∧ (convert 22 9 (.slice ao m.length cap)).run Tryd.prog w' = .ok (.string (str m)) w')
          (first | go_keep | exact x5 | exact hS _ (Below.refl _ _))
          ((first | (go_at_call 8; refine k1.mono ?_; rintro e wx ⟨rfl, hwx⟩; rw [hwx]; clear hwx wx) | (go_at_call 8; refine k2.mono ?_; rintro e wx ⟨rfl, hwx⟩; rw [hwx]; clear hwx wx) | (go_at_call 11; refine k5.mono ?_; rintro e w5 ⟨rfl, hb5⟩; have x5 := hS _ hb5)))
        go_wp2
        go_ret
        exact ⟨rfl, hd.trans (hb5.mono hbelw.size)⟩
      · have hsi : ((crcSum m : Int) == (crcSum l : Int)) = false := by
          have h := fun h => hml (hmm.out.1 h)
          rw [beq_eq_false_iff_ne]
          exact fun e => h (Int.ofNat.inj e)
        have hsi2 : ¬ (crcSum m : Int) = (crcSum l : Int) := by simpa using hsi
        have hst := str_ne hlt hl hml
        have hst2 : ¬ (str m).toList = (str l).toList := fun h => by rw [h] at hst; simp at hst
        go_wp2
        go_region_held3 (fun w' => (convert 22 9 (.slice (some ⟨g, 0, none⟩) l.length cp)).run Tryd.prog w' = .ok (.string (str m)) w' ∧ (convert 22 9 (.slice ao l.length cap)).run Tryd.prog w' = .ok (.string (str l)) w')
          (first | go_keep | exact x5 | exact hS _ (Below.refl _ _))
          ((first | (go_at_call 8; refine k1.mono ?_; rintro e wx ⟨rfl, hwx⟩; rw [hwx]; clear hwx wx) | (go_at_call 8; refine k2.mono ?_; rintro e wx ⟨rfl, hwx⟩; rw [hwx]; clear hwx wx) | (go_at_call 11; refine k5.mono ?_; rintro e w5 ⟨rfl, hb5⟩; have x5 := hS _ hb5)))
        go_wp2
        go_ret
        exact ⟨rfl, hd.trans (hb5.mono hbelw.size)⟩

theorem turns_law (l : List Nat) (v : Value) (b0 b1 b2 : Nat) (w : World) (hT : Tab w) (hB : Bs w.heap.size w v l) (hl : ∀ c ∈ l, c < 256) (hb0 : b0 < 65536) (hb1 : b1 < 65536) (hb2 : b2 < 65536) :
    Calls Tryd.prog 6 #[v, .agg #[.int .u16 (b0 : Int), .int .u16 (b1 : Int), .int .u16 (b2 : Int)]] w fun e w' => e = .returned (.bool true) ∧ Below w.heap.size w w' := by
  by_cases h : l.length = 0 ∨ 256 < l.length
  · exact turns_none l v b0 b1 b2 w hT hB h
  · exact turns_some l v b0 b1 b2 w hT hB hl (fun h0 => h (.inl h0)) (by omega) hb0 hb1 hb2
end Go.Proofs.YtdogjphdcdegpaaDoor
