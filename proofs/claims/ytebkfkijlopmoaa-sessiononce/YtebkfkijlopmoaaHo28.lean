import Derived.Test.YtebkfkijlopmoaaHo23
/- The program's mayBe, seat, find; the document's Call. -/
namespace Go.Proofs.Ytebkfkijlopmoaa
open Go.RowKit SessionMath
set_option maxRecDepth 100000
set_option linter.unusedSimpArgs false
set_option linter.unusedVariables false

set_option maxHeartbeats 1000000 in
theorem mayBe_of (z : Sz) (w : World) (hl : z.2.2.1 = z.1.rp.length) : Calls Try.prog 20 #[ev z] w fun e w' => e = .returned (.bool (seatB z.1)) ∧ Below w.heap.size w w' := by
  obtain ⟨⟨c, q, r⟩, sa, sn, sc⟩ := z
  dsimp only at hl
  subst hl
  dsimp only [ev]
  obtain ⟨B, HB⟩ : ∃ B, Hid (B = seatB ⟨c, q, r⟩) := ⟨_, rfl⟩
  rw [← HB.out]
  obtain ⟨hs, hb, cl⟩ := st_box w (⟨c, q, r⟩, sa, r.length, sc)
  obtain ⟨c0, c1, c2⟩ := cl _ (Below.refl _ _)
  dsimp only [ec] at *
  by_cases h1 : 0 ≤ c
  · have h1i : (0 : Int) ≤ c := h1
    by_cases h2 : c < 8
    · by_cases h3 : 1 ≤ q
      · have h3i : (1 : Int) ≤ (q : Int) := by omega
        by_cases h4 : q ≤ 4611686018427387904
        · have h4i : (q : Int) ≤ 4611686018427387904 := by omega
          by_cases h5 : r.length ≤ 4096
          · have h5i : (r.length : Int) ≤ 4096 := by omega
            have E : Hid (B = true) := by show _ = _; rw [HB.out]; simp [seatB, callB, h1, h2, h3, h4, h5]
            clear HB cl
            go_enter Try.func20, Try.ntmps20
            go_wp2
            go_ret
            exact ⟨by rw [E.out]; rfl, hb⟩
          · have E : Hid (B = false) := by show _ = _; rw [HB.out]; simp [seatB, callB, h5]
            have h5d : decide (r.length ≤ 4096) = false := decide_eq_false h5
            have h5e : decide ((r.length : Int) ≤ 4096) = false := decide_eq_false (by omega)
            clear h5
            clear HB cl
            go_enter Try.func20, Try.ntmps20
            go_wp2
            go_ret
            exact ⟨by rw [E.out]; rfl, hb⟩
        · have E : Hid (B = false) := by show _ = _; rw [HB.out]; simp [seatB, callB, h4]
          have h4d : decide (q ≤ 4611686018427387904) = false := decide_eq_false h4
          have h4e : decide ((q : Int) ≤ 4611686018427387904) = false := decide_eq_false (by omega)
          clear h4
          clear HB cl
          go_enter Try.func20, Try.ntmps20
          go_wp2
          go_ret
          exact ⟨by rw [E.out]; rfl, hb⟩
      · have E : Hid (B = false) := by show _ = _; rw [HB.out]; simp [seatB, callB, h3]
        have h3d : decide (1 ≤ q) = false := decide_eq_false h3
        have h3e : decide ((1 : Int) ≤ (q : Int)) = false := decide_eq_false (by omega)
        clear h3
        clear HB cl
        go_enter Try.func20, Try.ntmps20
        go_wp2
        go_ret
        exact ⟨by rw [E.out]; rfl, hb⟩
    · have E : Hid (B = false) := by show _ = _; rw [HB.out]; simp [seatB, callB, h2]
      have h2d : decide (c < 8) = false := decide_eq_false h2
      clear h2
      clear HB cl
      go_enter Try.func20, Try.ntmps20
      go_wp2
      go_ret
      exact ⟨by rw [E.out]; rfl, hb⟩
  · have E : Hid (B = false) := by show _ = _; rw [HB.out]; simp [seatB, callB, h1]
    have h1d : decide ((0 : Int) ≤ c) = false := decide_eq_false h1
    clear h1
    clear HB cl
    go_enter Try.func20, Try.ntmps20
    go_wp2
    go_ret
    exact ⟨by rw [E.out]; rfl, hb⟩

theorem results_seat {fn : Func} {p : Tmp} (h : fn.results = #[.cell p 49]) (tmps : Array Value) (w : World) (g : Nat) (a b c : Value)
    (hp : tmps.getD p undef = .pointer (some ⟨g, 0, none⟩)) (hg : w.heap[g]? = some (.cells #[a, b, c] 49 (0, 0))) :
    (results fn tmps).run Try.prog w = .ok (.agg #[a, b, c]) w := by
  have hp' : tmps[p]?.getD undef = .pointer (some ⟨g, 0, none⟩) := by simpa using hp
  simp [results, h, hp', asAddr, run_loadVar_row w g 49 49 #[a, b, c] (0, 0) _ hg Try.underlying49 rfl (by kernel_rfl)]
set_option maxHeartbeats 1000000 in
theorem seat_of (c : Int) (q : Nat) (s : Sl) (w : World) : Calls Try.prog 21 #[.agg #[.int .i64 c, .int .u64 (q : Int)], .slice s.1 s.2.1 s.2.2] w fun e w' => e = .returned (.agg #[.int .i64 c, .int .u64 (q : Int), .slice s.1 s.2.1 s.2.2]) ∧ Below w.heap.size w w' := by
  obtain ⟨sa, sn, sc⟩ := s
  dsimp only
  obtain ⟨h1, h3, cl⟩ := id_box w c q
  obtain ⟨c0, c1⟩ := cl _ (Below.refl _ _)
  obtain ⟨d0, d1⟩ := cl _ ((Below.refl _ _).alloc (Nat.le_of_eq h1.symm) (.cells #[.int .i64 0, .int .u64 0, .slice none 0 0] 49))
  obtain ⟨q1, q2, q3⟩ := one_box (w.alloc (.cells #[.int .i64 c, .int .u64 (q : Int)] 25)) (.cells #[.int .i64 c, .int .u64 (q : Int), .slice sa sn sc] 49)
  rw [h1] at q1 q2 q3
  have hb2 := h3.trans (q3.mono (Nat.le_succ _))
  clear cl
  go_enter Try.func21, Try.ntmps21
  go_wp2
  (try simp only [Exit.inBlock, Exit.then])
  refine bodyPost_ret (results_seat rfl _ _ (w.heap.size + 1) _ _ _ rfl q2) rfl ?_
  exact ⟨rfl, hb2⟩

theorem compare_of (x y : Int) (w : World) : Calls Try.prog 40 #[.int .i64 x, .int .i64 y] w fun e w' => e = .returned (.int .i64 (if x < y then -1 else if y < x then 1 else 0)) ∧ w' = w := by
  have kn : ∀ z W, Calls Try.prog 50 #[.int .i64 z] W fun e w' => e = .returned (.bool false) ∧ w' = W := fun z W => by
    go_enter Try.func50, Try.ntmps50
    go_wp2
    go_ret
    exact ⟨by simp, rfl⟩
  rcases Int.lt_trichotomy x y with h | h | h
  · rw [if_pos h]
    go_enter Try.func40, Try.ntmps40
    go_wp2_with (go_at_call 50; refine (kn _ _).mono ?_; rintro e w' ⟨rfl, rfl⟩)
    go_ret
    exact ⟨rfl, rfl⟩
  · subst h
    have h1 : ¬ x < x := by omega
    rw [if_neg h1, if_neg h1]
    go_enter Try.func40, Try.ntmps40
    go_wp2_with (go_at_call 50; refine (kn _ _).mono ?_; rintro e w' ⟨rfl, rfl⟩)
    go_ret
    exact ⟨rfl, rfl⟩
  · have h1 : ¬ x < y := by omega
    rw [if_neg h1, if_pos h]
    go_enter Try.func40, Try.ntmps40
    go_wp2_with (go_at_call 50; refine (kn _ _).mono ?_; rintro e w' ⟨rfl, rfl⟩)
    go_ret
    exact ⟨rfl, rfl⟩

set_option maxHeartbeats 1000000 in
theorem find1_of (z : Sz) (c : Int) (w : World) : Calls Try.prog 39 #[ev z, .int .i64 c] w fun e w' => e = .returned (.int .i64 (if z.1.cl < c then -1 else if c < z.1.cl then 1 else 0)) ∧ Below w.heap.size w w' := by
  obtain ⟨hs, hb, cl⟩ := st_box w z
  obtain ⟨c0, c1, c2⟩ := cl _ (Below.refl _ _)
  obtain ⟨⟨x, q, r⟩, sa, sn, sc⟩ := z
  dsimp only [ec, ev] at *
  have kc := compare_of x c (w.alloc (.cells #[.int .i64 x, .int .u64 (q : Int), .slice sa sn sc] 49))
  generalize (if x < c then (-1 : Int) else if c < x then 1 else 0) = R at *
  clear cl
  go_enter Try.func39, Try.ntmps39
  go_wp2_with fail
  refine kc.mono ?_
  rintro e w1 ⟨rfl, hw1⟩
  subst hw1
  go_wp2
  go_ret
  exact ⟨rfl, hb⟩

set_option maxHeartbeats 4000000 in
theorem search_of (zs : List Sz) (lv : Value) (c : Int) (K : Nat) (w : World) (hF : Rd seatE w lv zs) (hlen : zs.length ≤ 1000000) (hS : Plc (mes zs) c K) : Calls Try.prog 38 #[lv, .int .i64 c, .func (.func 39) #[] #[]] w fun e w' => e = .returned (.tuple #[.int .i64 (K : Int), .bool (hasB (mes zs) K c)]) ∧ Below w.heap.size w w' := by
  obtain ⟨B, HB⟩ : ∃ B, Hid (B = hasB (mes zs) K c) := ⟨_, rfl⟩
  rw [← HB.out]
  have HS : Hid (Plc (mes zs) c K) := hS
  have hKl : K ≤ zs.length := by have := hS.1; simpa using this
  have HK : Hid (∀ z W, Calls Try.prog 39 #[ev z, .int .i64 c] W fun e w' => e = .returned (.int .i64 (if z.1.cl < c then -1 else if c < z.1.cl then 1 else 0)) ∧ Below W.heap.size W w') := fun z W => find1_of z c W
  have HL : Hid (Rd seatE w lv zs) := hF
  obtain ⟨ao, cap, rfl, -, -⟩ := hF.shape
  clear hS hF
  go_enter Try.func38, Try.ntmps38
  go_wp2
  go_loopg [9, 10] (zs.length + 1) (fun g s9 s10 wr => ∃ i j : Nat, i ≤ K ∧ K ≤ j ∧ j ≤ zs.length ∧ j - i < g ∧ s9 = .int .i64 (i : Int) ∧ s10 = .int .i64 (j : Int) ∧ Below w.heap.size w wr)
  case atStart => exact ⟨0, zs.length, Nat.zero_le _, hKl, Nat.le_refl _, by omega, rfl, rfl, Below.refl _ _⟩
  case round =>
    obtain ⟨i, j, hiK, hKj, hjl, hg, rfl, rfl, hb⟩ := hrel
    by_cases hij : i < j
    · have hiji : (i : Int) < (j : Int) := by omega
      obtain ⟨h, hh⟩ : ∃ h : Nat, Hid (h = (i + j) / 2) := ⟨_, rfl⟩
      have hh1 : i ≤ h := by have := hh.out; omega
      have hh2 : h < j := by have := hh.out; omega
      have hhl : h < zs.length := by omega
      have hx : zs[h]? = some zs[h] := List.getElem?_eq_getElem hhl
      obtain ⟨z, hxx⟩ : ∃ x, x = zs[h] := ⟨_, rfl⟩
      rw [← hxx] at hx
      clear hxx
      obtain ⟨b, off, rfl, cc⟩ := rds_at HL.out hx
      obtain ⟨c0, c1, c2⟩ := cc wr hb
      have kl := HK.out z wr
      have hle : z.1.cl < c → h < K := fun hxz => by
        by_cases hk : K ≤ h
        · have := HS.out.2.2 h z.1 hk (mes_at hx)
          omega
        · omega
      have hge : ¬ z.1.cl < c → K ≤ h := fun hxz => by
        by_cases hk : h < K
        · have := HS.out.2.1 h z.1 hk (mes_at hx)
          omega
        · omega
      have q1 : ((i : Int) + (j : Int)) / 2 = (h : Int) := by have := hh.out; omega
      have q2 : (((i : Int) + (j : Int)) / 2).toNat = h := by omega
      obtain ⟨⟨x, sq, r⟩, sa, sn, sc⟩ := z
      dsimp only [ev] at *
      by_cases hxz : x < c
      · rw [if_pos hxz] at kl
        have hhK := hle hxz
        clear hle hge HS HB HL cc hx HK
        go_wp2_with fail
        refine kl.mono ?_
        rintro e w1 ⟨rfl, hb1⟩
        have hb2 := hb.trans (hb1.mono hb.size)
        clear kl c0 c1 c2
        go_wp2
        go_roundg (gk - 1)
        case measure => omega
        case rel => exact ⟨h + 1, j, by omega, hKj, hjl, by omega, by go_num, rfl, hb2⟩
      · have hhK := hge hxz
        obtain ⟨R, hR, hR0⟩ : ∃ R : Int, R = (if x < c then -1 else if c < x then 1 else 0) ∧ ¬ R < 0 := ⟨_, rfl, by rw [if_neg hxz]; split <;> omega⟩
        rw [← hR] at kl
        clear hle hge HS HB HL cc hx HK hR
        go_wp2_with fail
        refine kl.mono ?_
        rintro e w1 ⟨rfl, hb1⟩
        have hb2 := hb.trans (hb1.mono hb.size)
        clear kl c0 c1 c2
        go_wp2
        go_roundg (gk - 1)
        case measure => omega
        case rel => exact ⟨i, h, by omega, hhK, by omega, by omega, rfl, by go_num, hb2⟩
    · have hiji : ¬ (i : Int) < (j : Int) := by omega
      obtain rfl : i = K := by omega
      obtain rfl : i = j := by omega
      by_cases hil : i < zs.length
      · have hili : (i : Int) < (zs.length : Int) := by omega
        have hx : zs[i]? = some zs[i] := List.getElem?_eq_getElem hil
        obtain ⟨z, hxx⟩ : ∃ x, x = zs[i] := ⟨_, rfl⟩
        rw [← hxx] at hx
        clear hxx
        obtain ⟨b, off, rfl, cc⟩ := rds_at HL.out hx
        obtain ⟨c0, c1, c2⟩ := cc wr hb
        have kl := HK.out z wr
        have hBz : B = decide (z.1.cl = c) := by rw [HB.out]; unfold hasB; rw [mes_at hx]
        obtain ⟨⟨x, sq, r⟩, sa, sn, sc⟩ := z
        dsimp only [ev] at *
        by_cases hxz : x = c
        · have E : Hid (B = true) := by show _ = _; rw [hBz, decide_eq_true hxz]
          rw [if_neg (by omega), if_neg (by omega)] at kl
          clear HS HB HL cc hx HK hBz hxz
          go_wp2_with fail
          refine kl.mono ?_
          rintro e w1 ⟨rfl, hb1⟩
          have hb2 := hb.trans (hb1.mono hb.size)
          clear kl c0 c1 c2
          go_wp2
          go_ret2
          exact ⟨by rw [E.out]; rfl, hb2⟩
        · have E : Hid (B = false) := by show _ = _; rw [hBz, decide_eq_false hxz]
          obtain ⟨R, hR, hR0⟩ : ∃ R : Int, R = (if x < c then -1 else if c < x then 1 else 0) ∧ ¬ R = 0 := ⟨_, rfl, by split; omega; split <;> omega⟩
          rw [← hR] at kl
          have hR1 : (R == 0) = false := by simpa using hR0
          clear HS HB HL cc hx HK hBz hxz hR
          go_wp2_with fail
          refine kl.mono ?_
          rintro e w1 ⟨rfl, hb1⟩
          have hb2 := hb.trans (hb1.mono hb.size)
          clear kl c0 c1 c2
          go_wp2
          go_ret2
          exact ⟨by rw [E.out]; rfl, hb2⟩
      · have hili : ¬ (i : Int) < (zs.length : Int) := by omega
        have E : Hid (B = false) := by
          show _ = _
          rw [HB.out]
          unfold hasB
          rw [List.getElem?_eq_none (by simp; omega)]
        clear HS HB HL HK
        go_wp2
        go_ret2
        exact ⟨by rw [E.out]; rfl, hb⟩

set_option maxHeartbeats 1000000 in
theorem find_of (zs : List Sz) (lv : Value) (c : Int) (K : Nat) (w : World) (hF : Rd seatE w lv zs) (hlen : zs.length ≤ 1000000) (hS : Plc (mes zs) c K) : Calls Try.prog 22 #[lv, .int .i64 c] w fun e w' => e = .returned (.tuple #[.int .i64 (K : Int), .bool (hasB (mes zs) K c)]) ∧ Below w.heap.size w w' := by
  have ks := search_of zs lv c K w hF hlen hS
  obtain ⟨ao, cap, rfl, -, -⟩ := hF.shape
  generalize hasB (mes zs) K c = B at *
  clear hF hS
  go_enter Try.func22, Try.ntmps22
  go_wp2_with fail
  refine ks.mono ?_
  rintro e w1 ⟨rfl, hb1⟩
  go_wp2
  go_ret2
  exact ⟨rfl, hb1⟩
end Go.Proofs.Ytebkfkijlopmoaa

