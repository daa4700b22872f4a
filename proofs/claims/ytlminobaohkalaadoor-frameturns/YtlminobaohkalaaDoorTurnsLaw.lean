/- The law FrameTurns: true at any kind, any bytes and any three places of bits; what lay in memory before stays as it was. -/
import Derived.Test.YtlminobaohkalaaDoorPuts
namespace Go.Proofs.YtlminobaohkalaaDoor
open Go.RowKit WireMath CrcMath FrameMath
set_option maxRecDepth 100000
set_option linter.unusedSimpArgs false

set_option maxHeartbeats 1000000 in
theorem turns_none (k : Nat) (l : List Nat) (v : Value) (b0 b1 b2 : Nat) (w : World) (hT : Tab w) (hB : Bs w.heap.size w v l) (h : 200 < l.length) :
    Calls Tryd.prog 7 #[.int .u8 (k : Int), v, .agg #[.int .u16 (b0 : Int), .int .u16 (b1 : Int), .int .u16 (b2 : Int)]] w fun e w' => e = .returned (.bool true) ∧ Below w.heap.size w w' := by
  obtain ⟨ao, cap, rfl, -⟩ := hB
  have hbl := (Below.refl w.heap.size w).alloc (Nat.le_refl _) (.cells #[.int .u16 (b0 : Int), .int .u16 (b1 : Int), .int .u16 (b2 : Int)] 46)
  have ka := awake_of _ (hT.below' hbl (Nat.le_refl _))
  have hj : (200 : Int) < (l.length : Int) := by omega
  go_enter Tryd.func7, Tryd.ntmps7
  go_wp2_with fail
  refine ka.mono ?_
  rintro e w1 ⟨rfl, hb⟩
  go_wp2
  go_ret
  exact ⟨rfl, hbl.trans (hb.mono hbl.size)⟩

/-- The bytes behind the first few bits. -/
def turnedBy (l : List Nat) (bs : List Nat) : List Nat := bs.foldl (fun m b => CrcMath.flip m (b % (8 * l.length + 1))) l

theorem flip_lt {l : List Nat} (hl : ∀ c ∈ l, c < 256) (n : Nat) : ∀ c ∈ CrcMath.flip l n, c < 256 := by
  unfold CrcMath.flip
  split
  · rename_i h
    intro c hc
    rcases List.mem_or_eq_of_mem_set hc with hc | rfl
    · exact hl c hc
    · refine Nat.xor_lt_two_pow (n := 8) (hl _ (List.getElem_mem h)) ?_
      exact Nat.pow_lt_pow_right (by decide) (Nat.mod_lt _ (by decide))
  · exact hl

theorem turnedBy_snoc (l bs : List Nat) (b : Nat) : turnedBy l (bs ++ [b]) = CrcMath.flip (turnedBy l bs) (b % (8 * l.length + 1)) := by
  unfold turnedBy
  rw [List.foldl_append]
  rfl
theorem turnedBy_length (l : List Nat) : ∀ (bs : List Nat), (turnedBy l bs).length = l.length := by
  have key : ∀ (bs m : List Nat), (bs.foldl (fun m b => CrcMath.flip m (b % (8 * l.length + 1))) m).length = m.length := by
    intro bs
    induction bs with
    | nil => intro m; rfl
    | cons b r ih => intro m; rw [List.foldl_cons, ih, flip_length]
  exact fun bs => key bs l
theorem turnedBy_lt {l : List Nat} (hl : ∀ c ∈ l, c < 256) : ∀ (bs : List Nat), ∀ c ∈ turnedBy l bs, c < 256 := by
  have key : ∀ (bs m : List Nat), (∀ c ∈ m, c < 256) → ∀ c ∈ bs.foldl (fun m b => CrcMath.flip m (b % (8 * l.length + 1))) m, c < 256 := by
    intro bs
    induction bs with
    | nil => intro m h; exact h
    | cons b r ih => intro m h; rw [List.foldl_cons]; exact ih _ (flip_lt h _)
  exact fun bs => key bs l hl

theorem Own.set {n₀ : Nat} {w : World} {g len cap : Nat} {m : List Nat} (h : Own n₀ w (.slice (some ⟨g, 0, none⟩) len cap) m) (j c : Nat) :
    Own n₀ (w.setCell ⟨g, j, none⟩ (.int .u8 (c : Int))) (.slice (some ⟨g, 0, none⟩) len cap) (m.set j c) := by
  obtain ⟨h1, ⟨h2, _⟩ | ⟨g', cap', cur, h2, hg, hb, hle, hm, hsz, ht⟩⟩ := h
  · cases h2
  · cases h2
    refine ⟨by rw [bc_length, List.length_set, Nat.mul_one], .inr ⟨g, cap, cur.setIfInBounds j (.int .u8 (c : Int)), by rw [List.length_set], hg, heap_setCell_same w g j cur _ _ hb, by rw [List.length_set]; exact hle, hm, by rw [Array.size_setIfInBounds]; exact hsz, ?_⟩⟩
    rw [List.length_set, Array.toList_setIfInBounds, List.take_set, ht]
    simp [bc, List.map_set]

theorem Own.spots {n₀ : Nat} {w : World} {g len cap : Nat} {m : List Nat} (h : Own n₀ w (.slice (some ⟨g, 0, none⟩) len cap) m) :
    (∀ (j c : Nat), m[j]? = some c → w.cell? ⟨g, j, none⟩ = some (.int .u8 (c : Int))) ∧ ∀ j, w.frozen? ⟨g, j, none⟩ = false := by
  obtain ⟨h1, ⟨h2, h3⟩ | ⟨g, cap, cur, h2, hg, hb, hle, hm', hsz, ht⟩⟩ := h
  · cases h2
  · cases h2
    refine ⟨fun j c hj => ?_, fun j => by simp [World.frozen?, hb]⟩
    rw [cells_of_block hb]
    have h1 : (bc m)[j]? = some (.int .u8 (c : Int)) := by simp [bc, hj]
    rw [← ht, List.getElem?_take] at h1
    split at h1
    · simpa using h1
    · cases h1

set_option maxHeartbeats 2000000 in
theorem turns_some1 (k : Nat) (l : List Nat) (v : Value) (b0 b1 b2 : Nat) (w : World) (hT : Tab w) (hB : Bs w.heap.size w v l) (hk : k < 256) (hl : ∀ c ∈ l, c < 256) (h1 : l.length ≤ 200) (h122 : l.length ≤ 122) (hb0 : b0 < 65536) (hb1 : b1 < 65536) (hb2 : b2 < 65536) :
    Calls Tryd.prog 7 #[.int .u8 (k : Int), v, .agg #[.int .u16 (b0 : Int), .int .u16 (b1 : Int), .int .u16 (b2 : Int)]] w fun e w' => e = .returned (.bool true) ∧ Below w.heap.size w w' := by
  have hbl := (Below.refl w.heap.size w).alloc (Nat.le_refl _) (.cells #[.int .u16 (b0 : Int), .int .u16 (b1 : Int), .int .u16 (b2 : Int)] 46)
  have hbits := heap_alloc_new w (.cells #[.int .u16 (b0 : Int), .int .u16 (b1 : Int), .int .u16 (b2 : Int)] 46)
  have hszA : (w.alloc (.cells #[.int .u16 (b0 : Int), .int .u16 (b1 : Int), .int .u16 (b2 : Int)] 46)).heap.size = w.heap.size + 1 := by simp
  have kp := put_of k l _ v _ (hT.below' hbl (Nat.le_refl _)) (hB.below hbl) hk hl hbl.size (by omega)
  have hkl : ∀ c ∈ k :: l, c < 256 := fun c hc => by
    rcases List.mem_cons.1 hc with rfl | h
    · exact hk
    · exact hl c h
  have hF := frameB_lt hk hl
  obtain ⟨pa, hP⟩ : ∃ pa, uv (l.length + 5) = [pa] := ⟨_, uv_lt (by omega)⟩
  obtain ⟨S, hS⟩ : ∃ S, S = sealed (k :: l) := ⟨_, rfl⟩
  have EF : frameB k l = [pa] ++ S := by unfold frameB; rw [hP, hS]
  have hSl : S.length = l.length + 5 := by rw [hS, sealed_length, List.length_cons]
  have hSb : ∀ c ∈ S, c < 256 := by rw [hS]; exact sealed_lt hkl
  have hok : Hid (next ([pa] ++ S) = .ok (k, l, (S.length + 1))) := by
    show _ = _
    have := next_frame k l [] (by omega)
    rw [List.append_nil, EF] at this
    rw [this]
    simp
  have hbad : Hid (∀ a b c, CrcMath.flip (CrcMath.flip (CrcMath.flip S a) b) c ≠ S → next ([pa] ++ CrcMath.flip (CrcMath.flip (CrcMath.flip S a) b) c) = .error 5) := by
    intro a b c hne
    rw [← hP]
    refine next_turned l _ (by omega) (by simp only [flip_length]; exact hSl) ?_
    rw [hS] at hne ⊢
    exact fun h => hne ((turned_seen (k :: l) hkl (by simp; omega) a b c).1 h)
  rw [EF] at kp hF
  clear EF hS hP hkl
  obtain ⟨ao, cap, rfl, -⟩ := id hB
  have hi : ¬ (200 : Int) < (l.length : Int) := by omega
  have hj : ¬ (122 : Int) < (l.length : Int) := by omega
  have hS5 : 5 ≤ S.length := by omega
  have hS205 : S.length ≤ 205 := by omega
  clear hSl h122
  go_enter Tryd.func7, Tryd.ntmps7
  go_wp2_with fail
  generalize w.alloc (.cells #[.int .u16 (b0 : Int), .int .u16 (b1 : Int), .int .u16 (b2 : Int)] 46) = wA at *
  refine kp.mono ?_
  rintro e w1 ⟨v1, rfl, hO1, hb1'⟩
  have hBx := hO1.bs
  obtain ⟨aox, capx, rfl⟩ := hO1.shape
  have hln0 : ([pa] ++ S).length = S.length + 1 := by simp
  rw [hln0] at hBx ⊢
  have hOy := own_new w1 #[] [] rfl (by simp)
  have hbly := (Below.refl w1.heap.size w1).alloc (Nat.le_refl _) (.cells #[] 5)
  have hBy := hBx.below hbly
  have hc1 : (([] : List Nat).length + ([pa] ++ S).length) ≤ 140737488355328 := by simp; omega
  go_wp2_with (at_builtin; refine wpList_append_bs rfl _ _ rfl w1.heap.size _ [] rfl hOy hbly.size _ _ ([pa] ++ S) rfl hBy hc1 ?_)
  intro v2 w2 hO2 hb2'
  have hbel2 : Below w1.heap.size w1 w2 := hbly.trans hb2'
  have hO2' : Own w1.heap.size w2 v2 ([pa] ++ S) := hO2
  have hBx2 := hBx.below hbel2
  rw [hszA] at hb1'
  have hAlt : w.heap.size < w.heap.size + 1 := Nat.lt_succ_self _
  have hA1 : w.heap.size + 1 ≤ w1.heap.size := by
    have := hb1'.size
    omega
  have hbelA : Below (w.heap.size + 1) wA w2 := hb1'.trans (hbel2.mono hA1)
  obtain ⟨g, cp, rfl, hg, -⟩ := hO2'.at (by simp)
  rw [hln0] at hO2' ⊢
  clear hOy hbly hBy hO2 hb2' hBx kp
  go_wp2
  go_loopg [11] 3 (fun gg s6 wr => ∃ j : Nat, j + gg = 3 ∧ s6 = .int .i64 (j : Int) ∧ Own w1.heap.size wr (.slice (some ⟨g, 0, none⟩) (S.length + 1) cp) ([pa] ++ turnedBy S ([b0, b1, b2].take j)) ∧ Below w1.heap.size w1 wr)
  case atStart => exact ⟨0, by simp, rfl, hO2', hbel2⟩
  case round =>
    clear hO2' hbel2 hbelA hBx2
    obtain ⟨j, hj3, rfl, hO, hbel⟩ := hrel
    have hlt := turnedBy_lt hSb ([b0, b1, b2].take j)
    have hln := turnedBy_length S ([b0, b1, b2].take j)
    have hbelA : Below (w.heap.size + 1) wA wr := hb1'.trans (hbel.mono hA1)
    by_cases hk3 : j < 3
    · have hki : (j : Int) < 3 := by omega
      obtain ⟨b, hbk, hb6, hcell⟩ : ∃ b, turnedBy S ([b0, b1, b2].take (j + 1)) = CrcMath.flip (turnedBy S ([b0, b1, b2].take j)) (b % (8 * S.length + 1)) ∧ b < 65536 ∧ wr.cell? ⟨w.heap.size, j, none⟩ = some (.int .u16 (b : Int)) := by
        have hbk := (hbelA.block w.heap.size hAlt).trans hbits
        match j, hk3 with
        | 0, _ => exact ⟨b0, rfl, hb0, by rw [cells_of_block hbk]; rfl⟩
        | 1, _ => exact ⟨b1, rfl, hb1, by rw [cells_of_block hbk]; rfl⟩
        | 2, _ => exact ⟨b2, rfl, hb2, by rw [cells_of_block hbk]; rfl⟩
      have HE : Hid (turnedBy S ([b0, b1, b2].take (j + 1)) = CrcMath.flip (turnedBy S ([b0, b1, b2].take j)) (b % (8 * S.length + 1))) := hbk
      clear hbk hbelA
      generalize turnedBy S ([b0, b1, b2].take j) = m at hO hlt hln HE
      have q1 : (b : Int) % (8 * (S.length : Int) + 1) = ((b % (8 * S.length + 1) : Nat) : Int) := by push_cast; rfl
      have q2 : (b : Int).tmod (8 * (S.length : Int) + 1) = ((b % (8 * S.length + 1) : Nat) : Int) := by rw [Int.tmod_eq_emod_of_nonneg (by omega), q1]
      have q0 : (S.length : Int) + 1 - 1 = (S.length : Int) := by omega
      have hn : b % (8 * S.length + 1) < 8 * S.length + 1 := Nat.mod_lt _ (by omega)
      generalize b % (8 * S.length + 1) = n at q1 q2 hn HE
      by_cases hn8 : n < 8 * S.length
      · have hn8i : (n : Int) < 8 * (S.length : Int) := by omega
        obtain ⟨hcs, hfr⟩ := hO.spots
        have hd : n / 8 < m.length := by omega
        have hdm : ([pa] ++ m)[1 + n / 8]? = some m[n / 8] := by
          rw [List.getElem?_append_right (by simp), show 1 + n / 8 - ([pa] : List Nat).length = n / 8 by simp, List.getElem?_eq_getElem hd]
        have c1 := hcs (1 + n / 8) m[n / 8] hdm
        have f1 := hfr (1 + n / 8)
        have hc256 := hlt m[n / 8] (List.getElem_mem hd)
        have hp : (2 : Nat) ^ (n % 8) < 256 := Nat.pow_lt_pow_right (a := 2) (n := 8) (by decide) (Nat.mod_lt _ (by decide))
        have q3 : bits .xor .u8 (m[n / 8] : Int) (2 ^ (n % 8) % 256) = ((m[n / 8] ^^^ 2 ^ (n % 8) : Nat) : Int) := by
          have e : ((2 : Int) ^ (n % 8) % 256) = ((2 ^ (n % 8) : Nat) : Int) := by
            have e1 : ((2 ^ (n % 8) : Nat) : Int) = (2 : Int) ^ (n % 8) := by push_cast; rfl
            rw [← e1]
            generalize (2 : Nat) ^ (n % 8) = p at hp
            omega
          rw [e, u8_xor_nat _ _ hc256 hp]
        have E2 : Hid ([pa] ++ turnedBy S ([b0, b1, b2].take (j + 1)) = ([pa] ++ m).set (1 + n / 8) (m[n / 8] ^^^ 2 ^ (n % 8))) := by
          show _ = _
          rw [HE.out, List.set_append_right _ _ (by simp), show 1 + n / 8 - ([pa] : List Nat).length = n / 8 by simp]
          unfold CrcMath.flip
          rw [dif_pos hd]
        have hO2 := hO.set (1 + n / 8) (m[n / 8] ^^^ 2 ^ (n % 8))
        have hbel2 := hbel.setCell (p := ⟨g, 1 + n / 8, none⟩) hg (.int .u8 ((m[n / 8] ^^^ 2 ^ (n % 8) : Nat) : Int))
        have hlt8 : (1 : Int) + (n : Int) / 8 < (S.length : Int) + 1 := by omega
        have hlt9 : 1 + n / 8 < S.length + 1 := by omega
        clear hcs hfr HE hO hok hbad
        go_wp2
        go_roundg (gk - 1)
        case measure => omega
        case rel => exact ⟨j + 1, by omega, by go_num, by rw [E2.out]; exact hO2, hbel2⟩
      · have hn8i : ¬ (n : Int) < 8 * (S.length : Int) := by omega
        have E2 : Hid (turnedBy S ([b0, b1, b2].take (j + 1)) = m) := by
          show _ = _
          rw [HE.out]
          exact flip_none (by omega)
        clear HE hok hbad
        go_wp2
        go_roundg (gk - 1)
        case measure => omega
        case rel => exact ⟨j + 1, by omega, by go_num, by rw [E2.out]; exact hO, hbel⟩
    · have hki : ¬ (j : Int) < 3 := by omega
      obtain rfl : j = 3 := by omega
      have hbm : Hid (turnedBy S ([b0, b1, b2].take 3) ≠ S → next ([pa] ++ turnedBy S ([b0, b1, b2].take 3)) = .error 5) := hbad.out _ _ _
      generalize turnedBy S ([b0, b1, b2].take 3) = m at hO hlt hln hbm
      have hFm : ∀ c ∈ ([pa] ++ m), c < 256 := fun c hc => by
        rcases List.mem_append.1 hc with h | h
        · exact hF c (List.mem_append_left _ h)
        · exact hlt c h
      have hbelw : Below w.heap.size w wr := hbl.trans (hbelA.mono (Nat.le_succ _))
      have hBx3 : Bs w1.heap.size wr (.slice aox (S.length + 1) capx) ([pa] ++ S) := by
        have := hO1.bs.below hbel
        rw [hln0] at this
        exact this
      have kn := next_of _ _ _ wr (hT.below' hbelw (Nat.le_refl _)) hO.bs hFm (Nat.le_refl _)
      have hBm := hO.bs
      clear hO hbelA hbad hB hbl hbits
      by_cases hml : m = S
      · subst hml
        rw [hok.out] at kn
        simp only [nxV, nxD] at kn
        go_wp2_with fail
        refine kn.mono ?_
        rintro e w4 ⟨d, rfl, -, -, hb4⟩
        have y1 := str_of (hBm.below hb4) hFm
        have y2 := str_of (hBx3.below (hb4.mono hbel.size)) hF
        have hbw4 := hbelw.trans (hb4.mono hbelw.size)
        have ka := awake_of w4 (hT.below' hbw4 (Nat.le_refl _))
        clear hBm hBx3 kn
        go_wp2_with fail
        refine ka.mono ?_
        rintro e w5 ⟨rfl, hb5⟩
        go_wp2
        go_ret
        exact ⟨rfl, hbw4.trans (hb5.mono hbw4.size)⟩
      · rw [hbm.out hml] at kn
        simp only [nxV, nxD] at kn
        have hst := str_ne hF hFm (fun h => hml (List.append_cancel_left h).symm)
        have hst2 : ¬ (str ([pa] ++ S)).toList = (str ([pa] ++ m)).toList := fun h => by rw [h] at hst; simp at hst
        go_wp2_with fail
        refine kn.mono ?_
        rintro e w4 ⟨d, rfl, -, -, hb4⟩
        have y1 := str_of (hBm.below hb4) hFm
        have y2 := str_of (hBx3.below (hb4.mono hbel.size)) hF
        have hbw4 := hbelw.trans (hb4.mono hbelw.size)
        have ka := awake_of w4 (hT.below' hbw4 (Nat.le_refl _))
        clear hBm hBx3 kn
        generalize str ([pa] ++ S) = sx at hst hst2 y2
        generalize str ([pa] ++ m) = sy at hst hst2 y1
        go_wp2_with fail
        refine ka.mono ?_
        rintro e w5 ⟨rfl, hb5⟩
        go_wp2
        go_ret
        exact ⟨rfl, hbw4.trans (hb5.mono hbw4.size)⟩

set_option maxHeartbeats 2000000 in
theorem turns_some2 (k : Nat) (l : List Nat) (v : Value) (b0 b1 b2 : Nat) (w : World) (hT : Tab w) (hB : Bs w.heap.size w v l) (hk : k < 256) (hl : ∀ c ∈ l, c < 256) (h1 : l.length ≤ 200) (h122 : 122 < l.length) (hb0 : b0 < 65536) (hb1 : b1 < 65536) (hb2 : b2 < 65536) :
    Calls Tryd.prog 7 #[.int .u8 (k : Int), v, .agg #[.int .u16 (b0 : Int), .int .u16 (b1 : Int), .int .u16 (b2 : Int)]] w fun e w' => e = .returned (.bool true) ∧ Below w.heap.size w w' := by
  have hbl := (Below.refl w.heap.size w).alloc (Nat.le_refl _) (.cells #[.int .u16 (b0 : Int), .int .u16 (b1 : Int), .int .u16 (b2 : Int)] 46)
  have hbits := heap_alloc_new w (.cells #[.int .u16 (b0 : Int), .int .u16 (b1 : Int), .int .u16 (b2 : Int)] 46)
  have hszA : (w.alloc (.cells #[.int .u16 (b0 : Int), .int .u16 (b1 : Int), .int .u16 (b2 : Int)] 46)).heap.size = w.heap.size + 1 := by simp
  have kp := put_of k l _ v _ (hT.below' hbl (Nat.le_refl _)) (hB.below hbl) hk hl hbl.size (by omega)
  have hkl : ∀ c ∈ k :: l, c < 256 := fun c hc => by
    rcases List.mem_cons.1 hc with rfl | h
    · exact hk
    · exact hl c h
  have hF := frameB_lt hk hl
  obtain ⟨pa, pb, hP⟩ : ∃ pa pb, uv (l.length + 5) = [pa, pb] := ⟨_, _, by rw [uv_ge (by omega), uv_lt (by omega)]⟩
  obtain ⟨S, hS⟩ : ∃ S, S = sealed (k :: l) := ⟨_, rfl⟩
  have EF : frameB k l = [pa, pb] ++ S := by unfold frameB; rw [hP, hS]
  have hSl : S.length = l.length + 5 := by rw [hS, sealed_length, List.length_cons]
  have hSb : ∀ c ∈ S, c < 256 := by rw [hS]; exact sealed_lt hkl
  have hok : Hid (next ([pa, pb] ++ S) = .ok (k, l, (S.length + 2))) := by
    show _ = _
    have := next_frame k l [] (by omega)
    rw [List.append_nil, EF] at this
    rw [this]
    simp
  have hbad : Hid (∀ a b c, CrcMath.flip (CrcMath.flip (CrcMath.flip S a) b) c ≠ S → next ([pa, pb] ++ CrcMath.flip (CrcMath.flip (CrcMath.flip S a) b) c) = .error 5) := by
    intro a b c hne
    rw [← hP]
    refine next_turned l _ (by omega) (by simp only [flip_length]; exact hSl) ?_
    rw [hS] at hne ⊢
    exact fun h => hne ((turned_seen (k :: l) hkl (by simp; omega) a b c).1 h)
  rw [EF] at kp hF
  clear EF hS hP hkl
  obtain ⟨ao, cap, rfl, -⟩ := id hB
  have hi : ¬ (200 : Int) < (l.length : Int) := by omega
  have hj : (122 : Int) < (l.length : Int) := by omega
  have hS5 : 5 ≤ S.length := by omega
  have hS205 : S.length ≤ 205 := by omega
  clear hSl h122
  go_enter Tryd.func7, Tryd.ntmps7
  go_wp2_with fail
  generalize w.alloc (.cells #[.int .u16 (b0 : Int), .int .u16 (b1 : Int), .int .u16 (b2 : Int)] 46) = wA at *
  refine kp.mono ?_
  rintro e w1 ⟨v1, rfl, hO1, hb1'⟩
  have hBx := hO1.bs
  obtain ⟨aox, capx, rfl⟩ := hO1.shape
  have hln0 : ([pa, pb] ++ S).length = S.length + 2 := by simp
  rw [hln0] at hBx ⊢
  have hOy := own_new w1 #[] [] rfl (by simp)
  have hbly := (Below.refl w1.heap.size w1).alloc (Nat.le_refl _) (.cells #[] 5)
  have hBy := hBx.below hbly
  have hc1 : (([] : List Nat).length + ([pa, pb] ++ S).length) ≤ 140737488355328 := by simp; omega
  go_wp2_with (at_builtin; refine wpList_append_bs rfl _ _ rfl w1.heap.size _ [] rfl hOy hbly.size _ _ ([pa, pb] ++ S) rfl hBy hc1 ?_)
  intro v2 w2 hO2 hb2'
  have hbel2 : Below w1.heap.size w1 w2 := hbly.trans hb2'
  have hO2' : Own w1.heap.size w2 v2 ([pa, pb] ++ S) := hO2
  have hBx2 := hBx.below hbel2
  rw [hszA] at hb1'
  have hAlt : w.heap.size < w.heap.size + 1 := Nat.lt_succ_self _
  have hA1 : w.heap.size + 1 ≤ w1.heap.size := by
    have := hb1'.size
    omega
  have hbelA : Below (w.heap.size + 1) wA w2 := hb1'.trans (hbel2.mono hA1)
  obtain ⟨g, cp, rfl, hg, -⟩ := hO2'.at (by simp)
  rw [hln0] at hO2' ⊢
  clear hOy hbly hBy hO2 hb2' hBx kp
  go_wp2
  go_loopg [11] 3 (fun gg s6 wr => ∃ j : Nat, j + gg = 3 ∧ s6 = .int .i64 (j : Int) ∧ Own w1.heap.size wr (.slice (some ⟨g, 0, none⟩) (S.length + 2) cp) ([pa, pb] ++ turnedBy S ([b0, b1, b2].take j)) ∧ Below w1.heap.size w1 wr)
  case atStart => exact ⟨0, by simp, rfl, hO2', hbel2⟩
  case round =>
    clear hO2' hbel2 hbelA hBx2
    obtain ⟨j, hj3, rfl, hO, hbel⟩ := hrel
    have hlt := turnedBy_lt hSb ([b0, b1, b2].take j)
    have hln := turnedBy_length S ([b0, b1, b2].take j)
    have hbelA : Below (w.heap.size + 1) wA wr := hb1'.trans (hbel.mono hA1)
    by_cases hk3 : j < 3
    · have hki : (j : Int) < 3 := by omega
      obtain ⟨b, hbk, hb6, hcell⟩ : ∃ b, turnedBy S ([b0, b1, b2].take (j + 1)) = CrcMath.flip (turnedBy S ([b0, b1, b2].take j)) (b % (8 * S.length + 1)) ∧ b < 65536 ∧ wr.cell? ⟨w.heap.size, j, none⟩ = some (.int .u16 (b : Int)) := by
        have hbk := (hbelA.block w.heap.size hAlt).trans hbits
        match j, hk3 with
        | 0, _ => exact ⟨b0, rfl, hb0, by rw [cells_of_block hbk]; rfl⟩
        | 1, _ => exact ⟨b1, rfl, hb1, by rw [cells_of_block hbk]; rfl⟩
        | 2, _ => exact ⟨b2, rfl, hb2, by rw [cells_of_block hbk]; rfl⟩
      have HE : Hid (turnedBy S ([b0, b1, b2].take (j + 1)) = CrcMath.flip (turnedBy S ([b0, b1, b2].take j)) (b % (8 * S.length + 1))) := hbk
      clear hbk hbelA
      generalize turnedBy S ([b0, b1, b2].take j) = m at hO hlt hln HE
      have q1 : (b : Int) % (8 * (S.length : Int) + 1) = ((b % (8 * S.length + 1) : Nat) : Int) := by push_cast; rfl
      have q2 : (b : Int).tmod (8 * (S.length : Int) + 1) = ((b % (8 * S.length + 1) : Nat) : Int) := by rw [Int.tmod_eq_emod_of_nonneg (by omega), q1]
      have q0 : (S.length : Int) + 2 - 2 = (S.length : Int) := by omega
      have hn : b % (8 * S.length + 1) < 8 * S.length + 1 := Nat.mod_lt _ (by omega)
      generalize b % (8 * S.length + 1) = n at q1 q2 hn HE
      by_cases hn8 : n < 8 * S.length
      · have hn8i : (n : Int) < 8 * (S.length : Int) := by omega
        obtain ⟨hcs, hfr⟩ := hO.spots
        have hd : n / 8 < m.length := by omega
        have hdm : ([pa, pb] ++ m)[2 + n / 8]? = some m[n / 8] := by
          rw [List.getElem?_append_right (by simp), show 2 + n / 8 - ([pa, pb] : List Nat).length = n / 8 by simp, List.getElem?_eq_getElem hd]
        have c1 := hcs (2 + n / 8) m[n / 8] hdm
        have f1 := hfr (2 + n / 8)
        have hc256 := hlt m[n / 8] (List.getElem_mem hd)
        have hp : (2 : Nat) ^ (n % 8) < 256 := Nat.pow_lt_pow_right (a := 2) (n := 8) (by decide) (Nat.mod_lt _ (by decide))
        have q3 : bits .xor .u8 (m[n / 8] : Int) (2 ^ (n % 8) % 256) = ((m[n / 8] ^^^ 2 ^ (n % 8) : Nat) : Int) := by
          have e : ((2 : Int) ^ (n % 8) % 256) = ((2 ^ (n % 8) : Nat) : Int) := by
            have e1 : ((2 ^ (n % 8) : Nat) : Int) = (2 : Int) ^ (n % 8) := by push_cast; rfl
            rw [← e1]
            generalize (2 : Nat) ^ (n % 8) = p at hp
            omega
          rw [e, u8_xor_nat _ _ hc256 hp]
        have E2 : Hid ([pa, pb] ++ turnedBy S ([b0, b1, b2].take (j + 1)) = ([pa, pb] ++ m).set (2 + n / 8) (m[n / 8] ^^^ 2 ^ (n % 8))) := by
          show _ = _
          rw [HE.out, List.set_append_right _ _ (by simp), show 2 + n / 8 - ([pa, pb] : List Nat).length = n / 8 by simp]
          unfold CrcMath.flip
          rw [dif_pos hd]
        have hO2 := hO.set (2 + n / 8) (m[n / 8] ^^^ 2 ^ (n % 8))
        have hbel2 := hbel.setCell (p := ⟨g, 2 + n / 8, none⟩) hg (.int .u8 ((m[n / 8] ^^^ 2 ^ (n % 8) : Nat) : Int))
        have hlt8 : (2 : Int) + (n : Int) / 8 < (S.length : Int) + 2 := by omega
        have hlt9 : 2 + n / 8 < S.length + 2 := by omega
        clear hcs hfr HE hO hok hbad
        go_wp2
        go_roundg (gk - 1)
        case measure => omega
        case rel => exact ⟨j + 1, by omega, by go_num, by rw [E2.out]; exact hO2, hbel2⟩
      · have hn8i : ¬ (n : Int) < 8 * (S.length : Int) := by omega
        have E2 : Hid (turnedBy S ([b0, b1, b2].take (j + 1)) = m) := by
          show _ = _
          rw [HE.out]
          exact flip_none (by omega)
        clear HE hok hbad
        go_wp2
        go_roundg (gk - 1)
        case measure => omega
        case rel => exact ⟨j + 1, by omega, by go_num, by rw [E2.out]; exact hO, hbel⟩
    · have hki : ¬ (j : Int) < 3 := by omega
      obtain rfl : j = 3 := by omega
      have hbm : Hid (turnedBy S ([b0, b1, b2].take 3) ≠ S → next ([pa, pb] ++ turnedBy S ([b0, b1, b2].take 3)) = .error 5) := hbad.out _ _ _
      generalize turnedBy S ([b0, b1, b2].take 3) = m at hO hlt hln hbm
      have hFm : ∀ c ∈ ([pa, pb] ++ m), c < 256 := fun c hc => by
        rcases List.mem_append.1 hc with h | h
        · exact hF c (List.mem_append_left _ h)
        · exact hlt c h
      have hbelw : Below w.heap.size w wr := hbl.trans (hbelA.mono (Nat.le_succ _))
      have hBx3 : Bs w1.heap.size wr (.slice aox (S.length + 2) capx) ([pa, pb] ++ S) := by
        have := hO1.bs.below hbel
        rw [hln0] at this
        exact this
      have kn := next_of _ _ _ wr (hT.below' hbelw (Nat.le_refl _)) hO.bs hFm (Nat.le_refl _)
      have hBm := hO.bs
      clear hO hbelA hbad hB hbl hbits
      by_cases hml : m = S
      · subst hml
        rw [hok.out] at kn
        simp only [nxV, nxD] at kn
        go_wp2_with fail
        refine kn.mono ?_
        rintro e w4 ⟨d, rfl, -, -, hb4⟩
        have y1 := str_of (hBm.below hb4) hFm
        have y2 := str_of (hBx3.below (hb4.mono hbel.size)) hF
        have hbw4 := hbelw.trans (hb4.mono hbelw.size)
        have ka := awake_of w4 (hT.below' hbw4 (Nat.le_refl _))
        clear hBm hBx3 kn
        go_wp2_with fail
        refine ka.mono ?_
        rintro e w5 ⟨rfl, hb5⟩
        go_wp2
        go_ret
        exact ⟨rfl, hbw4.trans (hb5.mono hbw4.size)⟩
      · rw [hbm.out hml] at kn
        simp only [nxV, nxD] at kn
        have hst := str_ne hF hFm (fun h => hml (List.append_cancel_left h).symm)
        have hst2 : ¬ (str ([pa, pb] ++ S)).toList = (str ([pa, pb] ++ m)).toList := fun h => by rw [h] at hst; simp at hst
        go_wp2_with fail
        refine kn.mono ?_
        rintro e w4 ⟨d, rfl, -, -, hb4⟩
        have y1 := str_of (hBm.below hb4) hFm
        have y2 := str_of (hBx3.below (hb4.mono hbel.size)) hF
        have hbw4 := hbelw.trans (hb4.mono hbelw.size)
        have ka := awake_of w4 (hT.below' hbw4 (Nat.le_refl _))
        clear hBm hBx3 kn
        generalize str ([pa, pb] ++ S) = sx at hst hst2 y2
        generalize str ([pa, pb] ++ m) = sy at hst hst2 y1
        go_wp2_with fail
        refine ka.mono ?_
        rintro e w5 ⟨rfl, hb5⟩
        go_wp2
        go_ret
        exact ⟨rfl, hbw4.trans (hb5.mono hbw4.size)⟩

theorem turns_law (k : Nat) (l : List Nat) (v : Value) (b0 b1 b2 : Nat) (w : World) (hT : Tab w) (hB : Bs w.heap.size w v l) (hk : k < 256) (hl : ∀ c ∈ l, c < 256) (hb0 : b0 < 65536) (hb1 : b1 < 65536) (hb2 : b2 < 65536) :
    Calls Tryd.prog 7 #[.int .u8 (k : Int), v, .agg #[.int .u16 (b0 : Int), .int .u16 (b1 : Int), .int .u16 (b2 : Int)]] w fun e w' => e = .returned (.bool true) ∧ Below w.heap.size w w' := by
  by_cases h : 200 < l.length
  · exact turns_none k l v b0 b1 b2 w hT hB h
  · by_cases h2 : 122 < l.length
    · exact turns_some2 k l v b0 b1 b2 w hT hB hk hl (by omega) h2 hb0 hb1 hb2
    · exact turns_some1 k l v b0 b1 b2 w hT hB hk hl (by omega) (by omega) hb0 hb1 hb2
end Go.Proofs.YtlminobaohkalaaDoor
