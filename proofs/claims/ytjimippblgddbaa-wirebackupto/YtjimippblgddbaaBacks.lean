/- The walk of the law WireBack, whole. -/
import Derived.Test.YtjimippblgddbaaBack
import Derived.Deep.RegionWith
import Derived.Deep.QuietTactic
import Derived.BigQuiet
namespace Go.Proofs.Ytjimippblgddbaa
open Go.RowKit WireMath
set_option maxRecDepth 100000
set_option linter.unusedSimpArgs false

set_option maxHeartbeats 16000000 in
theorem back_law (its : List It) (v1 : Value) (w : World) (hI : Items w.heap.size w v1 its) (hlen : tot its ≤ 100000000000000) :
    Calls Try.prog 5 #[v1] w fun e w' => e = .returned (.bool true) ∧ Below w.heap.size w w' := by
  obtain ⟨ao, cap, rfl, hI2, hI3, hI4, hI5⟩ := hI
  have hkm : its.length ≤ 9223372036854775807 := by unfold maxLen at hI3; omega
  go_enter Try.func5, Try.ntmps5
  go_wp2
  go_loopg [3, 4] its.length (fun g s3 s4 wr => ∃ k : Nat, k + g = its.length ∧ s4 = .int .i64 (k : Int) ∧ Bs wr.heap.size wr s3 (out (its.take k)) ∧ Below w.heap.size w wr)
  case atStart => exact ⟨0, by simp, rfl, Bs.nil _ _, Below.refl _ _⟩
  case round =>
    obtain ⟨k, hk, rfl, hBs, hB⟩ := hrel
    by_cases hlt : k < its.length
    · obtain ⟨b, off, rfl, hb, hc⟩ := hI5 (by rintro rfl; simp at hlt)
      obtain ⟨c0, c1, c2, c3⟩ := hc k _ (List.getElem?_eq_getElem hlt)
      have hx0 := hI4 _ (List.getElem_mem hlt)
      have hx := It.ok_below hx0 hB
      have hl1 := out_len (its.take k) (fun x hx => hI4 x (List.mem_of_mem_take hx))
      have hl3 : tot (its.take k) + (10 + its[k].s.length) ≤ tot its := by
        have h1 := tot_take its (k + 1)
        rw [List.take_succ_eq_append_getElem hlt] at h1
        simp only [tot, List.map_append, List.sum_append, List.map_cons, List.map_nil, List.sum_cons, List.sum_nil] at h1 ⊢
        omega
      have E : Hid (out (its.take (k + 1)) = out (its.take k) ++ itB its[k].d its[k].n its[k].s) := by
        show _ = _
        rw [List.take_succ_eq_append_getElem hlt, out_snoc]
      have d0 := (hB.cell (p := ⟨b, off + k * 4, none⟩) hb).trans c0
      have d1 := (hB.cell (p := ⟨b, off + k * 4 + 1, none⟩) hb).trans c1
      have d2 := (hB.cell (p := ⟨b, off + k * 4 + 2, none⟩) hb).trans c2
      have d3 := (hB.cell (p := ⟨b, off + k * 4 + 3, none⟩) hb).trans c3
      have hli : (out (its.take k)).length + its[k].s.length ≤ 140737488355000 := by omega
      have hlti : (k : Int) < (its.length : Int) := by omega
      clear hc hI4 hI5 hl1 hl3 hx0 c0 c1 c2 c3 hlen
      generalize its[k] = x at *
      generalize hL : out (its.take k) = L at *
      have hw := written_of x.d L x.s u3 x.n x.v x.m wr hBs (hx.1.mono hB.size) hx.2.1 hli
      go_wp2_with fail
      refine hw.mono ?_
      rintro e w3 ⟨u1, u2, rfl, _, hC, hM, hb3⟩
      clear hw
      go_wp2
      go_roundg (gk - 1)
      case measure => omega
      case rel => exact ⟨k + 1, by omega, by go_num, by rw [E.out]; exact hC, hB.trans (hb3.mono hB.size)⟩
    · have hlti : ¬ (k : Int) < (its.length : Int) := by omega
      have hL : Hid (out (its.take k) = out its) := by show _ = _; rw [List.take_of_length_le (by omega)]
      rw [hL.out] at hBs
      have hll := out_len its hI4
      have hlb := out_bytes its hI4
      have hls : (out its).length ≤ 140737488355328 := by omega
      clear hlt hk hL
      go_wp2_with fail
      refine (read_of wr.heap.size (out its) _ wr hBs (Nat.le_refl _) hls).mono ?_
      rintro e wq ⟨q, rfl, hq, hR, hbq⟩
      have hq' : w.heap.size ≤ q := Nat.le_trans hB.size hq
      have hBq : Below w.heap.size w wq := hB.trans (hbq.mono hB.size)
      clear hBs hbq hq hB hlen hll hlti
      go_wp2
      go_loopg [6] its.length (fun g s6 wr => ∃ k : Nat, k + g = its.length ∧ s6 = .int .i64 (k : Int) ∧ Rd wr q (out its) (out (its.take k)).length 0 ∧ Below w.heap.size w wr)
      case atStart => exact ⟨0, by simp, rfl, hR, hBq⟩
      case round =>
        clear hR hBq
        obtain ⟨k, hk, rfl, hR, hB⟩ := hrel
        by_cases hlt : k < its.length
        · obtain ⟨b, off, rfl, hb, hc⟩ := hI5 (by rintro rfl; simp at hlt)
          obtain ⟨c0, c1, c2, c3⟩ := hc k _ (List.getElem?_eq_getElem hlt)
          have hx0 := hI4 _ (List.getElem_mem hlt)
          have E : Hid ((out (its.take (k + 1))).length = (out (its.take k)).length + (itB its[k].d its[k].n its[k].s).length) := by
            show _ = _
            rw [List.take_succ_eq_append_getElem hlt, out_snoc, List.length_append]
          have hdrop : Hid ((out its).drop (out (its.take k)).length = itB its[k].d its[k].n its[k].s ++ out (its.drop (k + 1))) := by
            show _ = _
            conv => lhs; rw [out_split its k hlt]
            exact List.drop_left
          have d0 := (hB.cell (p := ⟨b, off + k * 4, none⟩) hb).trans c0
          have d1 := (hB.cell (p := ⟨b, off + k * 4 + 1, none⟩) hb).trans c1
          have d2 := (hB.cell (p := ⟨b, off + k * 4 + 2, none⟩) hb).trans c2
          have d3 := (hB.cell (p := ⟨b, off + k * 4 + 3, none⟩) hb).trans c3
          have hlti : (k : Int) < (its.length : Int) := by omega
          clear hc hI4 hI5 c0 c1 c2 c3
          generalize its[k] = x at *
          generalize (out (its.take k)).length = at_ at *
          obtain ⟨hxB, hxn, hxs, hxl, _⟩ := hx0
          obtain ⟨d, n, sv, s, m⟩ := x
          dsimp only [It.d, It.n, It.v, It.s, It.m] at *
          generalize out its = L at *
          generalize out (its.drop (k + 1)) = rst at *
          obtain ⟨sa, scap, rfl, _, _, _, _⟩ := id hxB
          have hS : Sx w q wr.heap.size L at_ d n (.slice sa s.length scap) m (wr.alloc (.cells #[.int .i64 d, .int .u64 (n : Int), .slice sa s.length scap, .int .i64 m] 28)) :=
            ⟨hR.below ((Below.refl _ wr).alloc (Nat.le_refl _) _), by rw [cells_of_block (heap_alloc_new wr _)]; rfl, by rw [cells_of_block (heap_alloc_new wr _)]; rfl, by rw [cells_of_block (heap_alloc_new wr _)]; rfl, by rw [cells_of_block (heap_alloc_new wr _)]; rfl, hB.alloc hB.size _, by simp⟩
          have hXq : wr.heap.size ≠ q := by have := hR.lt; omega
          generalize hX : wr.heap.size = X at hS hXq
          clear hR
          go_wp2_with fail
          generalize (wr.alloc (.cells #[.int .i64 d, .int .u64 (n : Int), .slice sa s.length scap, .int .i64 m] 28)) = W at hS ⊢
          clear hX d0 d1 d2 d3
          obtain ⟨hR, c0, c1, c2, c3, hBW, hXW⟩ := id hS
          by_cases h0 : d = 0
          · subst h0
            have hdr := hdrop.out
            rw [itB_0] at hdr
            obtain ⟨e1, e2, e3⟩ := uv_at (L := L) (r := rst) (a := at_) (n := n) hdr hxn
            have hm := uvarint_m q L at_ 0 W.drew hS.drew.1 hlb
            rw [e1, e2, e3] at hm
            clear e1 e2 e3
            have hm' : Calls Try.prog 13 #[.pointer (some ⟨q, 0, none⟩)] W.drew fun e w' => e = .returned (.int .u64 (n : Int)) ∧ w'.cell? ⟨X, 1, none⟩ = some (.int .u64 (n : Int)) ∧ Sx w q X L (at_ + (uv n).length) 0 n (.slice sa s.length scap) m w' :=
              hm.mono fun e w' ⟨he, hR', hk'⟩ => ⟨he, (hS.drew.kp hR' hk' hq' hXq).2.2.1, hS.drew.kp hR' hk' hq' hXq⟩
            clear hm hdr
            go_region_with (go_at_call 13; refine hm'.mono ?_; rintro e wc ⟨rfl, hcc, hSc⟩)
            all_goals
              clear hS hR c0 c1 c2 c3 hBW hXW
              obtain ⟨hR, c0, c1, c2, c3, hBW, hXW⟩ := id hSc
              go_wp2_with fail
              go_simp
              go_big_quiet (fail)
              have hS1 := hSc.drewN nq
              clear hSc hR c0 c1 c2 c3 hBW hXW
              generalize wc.drewN nq = W1 at hS1 ⊢
              obtain ⟨hR, c0, c1, c2, c3, hBW, hXW⟩ := id hS1
              go_wp2_with fail
              go_big_quiet (fail)
              have hS2 := hS1.drewN nq
              clear hS1 hR c0 c1 c2 c3 hBW hXW
              generalize W1.drewN nq = W2 at hS2 ⊢
              obtain ⟨hR, c0, c1, c2, c3, hBW, hXW⟩ := id hS2
              go_wp2_with fail
              go_big_quiet (fail)
              have hS3 := hS2.drewN nq
              clear hS2 hR c0 c1 c2 c3 hBW hXW
              generalize W2.drewN nq = W3 at hS3 ⊢
              obtain ⟨hR, c0, c1, c2, c3, hBW, hXW⟩ := id hS3
              go_wp2_with fail
              go_big_quiet (fail)
              have hS4 := hS3.drewN nq
              clear hS3 hR c0 c1 c2 c3 hBW hXW
              generalize W3.drewN nq = W4 at hS4 ⊢
              obtain ⟨hR, c0, c1, c2, c3, hBW, hXW⟩ := id hS4
              go_wp2_with fail
              go_roundg (gk - 1)
              case measure => omega
              case rel => exact ⟨k + 1, by omega, by go_num, by rw [E.out, itB_0]; exact hR, hBW⟩
          · have g0 : ((d : Int) == 0) = false := by simp; exact h0
            go_big_quiet (fail)
            have hS5 := hS.drewN nq
            clear hS hR c0 c1 c2 c3 hBW hXW
            generalize W.drewN nq = W5 at hS5 ⊢
            obtain ⟨hR, c0, c1, c2, c3, hBW, hXW⟩ := id hS5
            go_wp2_with fail
            by_cases h1 : d = 1
            · subst h1
              have hdr := hdrop.out
              rw [itB_1] at hdr
              obtain ⟨e1, e2, e3⟩ := uv_at (L := L) (r := rst) (a := at_) (n := zz (s64 n)) hdr (zz_lt (s64_ge hxn).1 (s64_ge hxn).2)
              have hm := varint_m q L at_ 0 W5.drew hS5.drew.1 hlb
              rw [e1, e2, e3, unzz_zz] at hm
              clear e1 e2 e3
              have qz : IntKind.i64.wrap (n : Int) = s64 n := wrap_s64 hxn
              have hm' : Calls Try.prog 14 #[.pointer (some ⟨q, 0, none⟩)] W5.drew fun e w' => e = .returned (.int .i64 (s64 n)) ∧ w'.cell? ⟨X, 1, none⟩ = some (.int .u64 (n : Int)) ∧ Sx w q X L (at_ + (uv (zz (s64 n))).length) 1 n (.slice sa s.length scap) m w' :=
                hm.mono fun e w' ⟨he, hR', hk'⟩ => ⟨he, (hS5.drew.kp hR' hk' hq' hXq).2.2.1, hS5.drew.kp hR' hk' hq' hXq⟩
              clear hm hdr
              go_region_with (go_at_call 14; refine hm'.mono ?_; rintro e wc ⟨rfl, hcc, hSc⟩)
              all_goals
                clear hS5 hR c0 c1 c2 c3 hBW hXW
                obtain ⟨hR, c0, c1, c2, c3, hBW, hXW⟩ := id hSc
                go_wp2_with fail
                go_simp
                go_big_quiet (fail)
                have hS6 := hSc.drewN nq
                clear hSc hR c0 c1 c2 c3 hBW hXW
                generalize wc.drewN nq = W6 at hS6 ⊢
                obtain ⟨hR, c0, c1, c2, c3, hBW, hXW⟩ := id hS6
                go_wp2_with fail
                go_big_quiet (fail)
                have hS7 := hS6.drewN nq
                clear hS6 hR c0 c1 c2 c3 hBW hXW
                generalize W6.drewN nq = W7 at hS7 ⊢
                obtain ⟨hR, c0, c1, c2, c3, hBW, hXW⟩ := id hS7
                go_wp2_with fail
                go_big_quiet (fail)
                have hS8 := hS7.drewN nq
                clear hS7 hR c0 c1 c2 c3 hBW hXW
                generalize W7.drewN nq = W8 at hS8 ⊢
                obtain ⟨hR, c0, c1, c2, c3, hBW, hXW⟩ := id hS8
                go_wp2_with fail
                go_roundg (gk - 1)
                case measure => omega
                case rel => exact ⟨k + 1, by omega, by go_num, by rw [E.out, itB_1]; exact hR, hBW⟩
            · have g1 : ((d : Int) == 1) = false := by simp; exact h1
              go_big_quiet (fail)
              have hS9 := hS5.drewN nq
              clear hS5 hR c0 c1 c2 c3 hBW hXW
              generalize W5.drewN nq = W9 at hS9 ⊢
              obtain ⟨hR, c0, c1, c2, c3, hBW, hXW⟩ := id hS9
              go_wp2_with fail
              by_cases h2 : d = 2
              · subst h2
                have hdr := hdrop.out
                rw [itB_2] at hdr
                obtain ⟨e1, e2, e3⟩ := fx_at (L := L) (r := rst) (a := at_) (n := n % 4294967296) (k := 4) hdr (take4 _ _) (by omega)
                have hm := fixed4_m q L at_ 0 W9.drew hS9.drew.1 hlb
                rw [e1, e2, e3] at hm
                clear e1 e2 e3
                have qz : IntKind.u32.wrap (n : Int) = ((n % 4294967296 : Nat) : Int) := wrap_u32 n
                have hm' : Calls Try.prog 15 #[.pointer (some ⟨q, 0, none⟩)] W9.drew fun e w' => e = .returned (.int .u32 ((n % 4294967296 : Nat) : Int)) ∧ w'.cell? ⟨X, 1, none⟩ = some (.int .u64 (n : Int)) ∧ Sx w q X L (at_ + 4) 2 n (.slice sa s.length scap) m w' :=
                  hm.mono fun e w' ⟨he, hR', hk'⟩ => ⟨he, (hS9.drew.kp hR' hk' hq' hXq).2.2.1, hS9.drew.kp hR' hk' hq' hXq⟩
                clear hm hdr
                go_region_with (go_at_call 15; refine hm'.mono ?_; rintro e wc ⟨rfl, hcc, hSc⟩)
                all_goals
                  clear hS9 hR c0 c1 c2 c3 hBW hXW
                  obtain ⟨hR, c0, c1, c2, c3, hBW, hXW⟩ := id hSc
                  go_wp2_with fail
                  go_simp
                  go_big_quiet (fail)
                  have hS10 := hSc.drewN nq
                  clear hSc hR c0 c1 c2 c3 hBW hXW
                  generalize wc.drewN nq = W10 at hS10 ⊢
                  obtain ⟨hR, c0, c1, c2, c3, hBW, hXW⟩ := id hS10
                  go_wp2_with fail
                  go_big_quiet (fail)
                  have hS11 := hS10.drewN nq
                  clear hS10 hR c0 c1 c2 c3 hBW hXW
                  generalize W10.drewN nq = W11 at hS11 ⊢
                  obtain ⟨hR, c0, c1, c2, c3, hBW, hXW⟩ := id hS11
                  go_wp2_with fail
                  go_roundg (gk - 1)
                  case measure => omega
                  case rel => exact ⟨k + 1, by omega, by go_num, by rw [E.out, itB_2, fx_length]; exact hR, hBW⟩
              · have g2 : ((d : Int) == 2) = false := by simp; exact h2
                go_big_quiet (fail)
                have hS12 := hS9.drewN nq
                clear hS9 hR c0 c1 c2 c3 hBW hXW
                generalize W9.drewN nq = W12 at hS12 ⊢
                obtain ⟨hR, c0, c1, c2, c3, hBW, hXW⟩ := id hS12
                go_wp2_with fail
                by_cases h3 : d = 3
                · have hdr := hdrop.out
                  rw [h3, itB_3] at hdr
                  have t3 : ((d : Int) == 3) = true := by rw [h3]; rfl
                  have g6 : ((d : Int) == 6) = false := by rw [h3]; rfl
                  have h3' : Hid (d = 3) := h3
                  clear h3
                  have hm := fixed8_at q L rst at_ n W12.drew hS12.drew.1 hlb hdr hxn
                  have hm' : Calls Try.prog 16 #[.pointer (some ⟨q, 0, none⟩)] W12.drew fun e w' => e = .returned (.int .u64 (n : Int)) ∧ w'.cell? ⟨X, 1, none⟩ = some (.int .u64 (n : Int)) ∧ Sx w q X L (at_ + 8) d n (.slice sa s.length scap) m w' :=
                    hm.mono fun e w' ⟨he, hR', hk'⟩ => ⟨he, (hS12.drew.kp hR' hk' hq' hXq).2.2.1, hS12.drew.kp hR' hk' hq' hXq⟩
                  clear hm hdr
                  go_region_with (go_at_call 16; refine hm'.mono ?_; rintro e wc ⟨rfl, hcc, hSc⟩)
                  all_goals
                    clear hS12 hR c0 c1 c2 c3 hBW hXW
                    obtain ⟨hR, c0, c1, c2, c3, hBW, hXW⟩ := id hSc
                    go_wp2_with fail
                    go_simp
                    go_big_quiet (fail)
                    have hS13 := hSc.drewN nq
                    clear hSc hR c0 c1 c2 c3 hBW hXW
                    generalize wc.drewN nq = W13 at hS13 ⊢
                    obtain ⟨hR, c0, c1, c2, c3, hBW, hXW⟩ := id hS13
                    go_wp2_with fail
                    go_roundg (gk - 1)
                    case measure => omega
                    case rel => exact ⟨k + 1, by omega, by go_num, by rw [E.out, h3'.out, itB_3, fx_length]; exact hR, hBW⟩
                · have g3 : ((d : Int) == 3) = false := by simp; exact h3
                  go_big_quiet (fail)
                  have hS14 := hS12.drewN nq
                  clear hS12 hR c0 c1 c2 c3 hBW hXW
                  generalize W12.drewN nq = W14 at hS14 ⊢
                  obtain ⟨hR, c0, c1, c2, c3, hBW, hXW⟩ := id hS14
                  go_wp2_with fail
                  by_cases h6 : d = 6
                  · subst h6
                    have hdr := hdrop.out
                    rw [itB_6] at hdr
                    have hr6 : rd 10 0 0 (src L at_ 0) = some (s.length, (uv s.length).length) := by
                      have e1 : src L at_ 0 = uv s.length ++ s ++ rst := hdr
                      rw [e1, List.append_assoc]
                      exact read_back s.length (by unfold maxLen at hxl; omega) (s ++ rst)
                    have hs6 : src L at_ 0 = uv s.length ++ s ++ rst := hdr
                    have hm := bytes_ok q L at_ s.length (uv s.length).length (s.length : Int) W14.drew hS14.drew.1 hlb hr6 (Int.le_refl _) (by unfold maxLen at hxl; omega) (by rw [hs6, List.length_append, List.length_append]; omega) hls
                    rw [hs6, List.append_assoc, List.drop_left, List.take_left] at hm
                    have hxB' : ∀ W', Below w.heap.size w W' → Bs w.heap.size W' (.slice sa s.length scap) s := fun W' hb' => hxB.below hb'
                    have hm' : Calls Try.prog 17 #[.pointer (some ⟨q, 0, none⟩), .int .i64 (s.length : Int)] W14.drew fun e w' => ∃ v, e = .returned v ∧ Bs w'.heap.size w' v s ∧ w'.cell? ⟨X, 2, none⟩ = some (.slice sa s.length scap) ∧ Sx w q X L (at_ + ((uv s.length).length + s.length)) 6 n (.slice sa s.length scap) m w' :=
                      hm.mono fun e w' ⟨v, he, hv, hR', hk'⟩ => ⟨v, he, hv, (hS14.drew.kp hR' hk' hq' hXq).2.2.2.1, hS14.drew.kp hR' hk' hq' hXq⟩
                    have hsm : ∀ W' v, Bs W'.heap.size W' v s → Sx w q X L (at_ + ((uv s.length).length + s.length)) 6 n (.slice sa s.length scap) m W' → Calls Try.prog 9 #[v, .slice sa s.length scap] W' fun e w' => e = .returned (.bool true) ∧ w' = W' := fun W' v hv hS' =>
                      same_of _ _ s v _ W' hv (hxB' W' hS'.2.2.2.2.2.1) hxs
                    clear hm hr6 hs6 hdr
                    go_region_with (first | (go_at_call 17; refine hm'.mono ?_; rintro e wc ⟨v4, rfl, hv4, hcc, hSc⟩) | (go_at_call 9; refine (hsm _ _ hv4 hSc).mono ?_; rintro e wy ⟨rfl, hwy⟩; subst hwy))
                    all_goals
                      clear hS14 hR c0 c1 c2 c3 hBW hXW
                      obtain ⟨hR, c0, c1, c2, c3, hBW, hXW⟩ := id hSc
                      go_wp2_with fail
                      go_roundg (gk - 1)
                      case measure => omega
                      case rel => exact ⟨k + 1, by omega, by go_num, by rw [E.out, itB_6, List.length_append]; exact hR, hBW⟩
                  · have g6 : ((d : Int) == 6) = false := by simp; exact h6
                    go_big_quiet (fail)
                    have hS15 := hS14.drewN nq
                    clear hS14 hR c0 c1 c2 c3 hBW hXW
                    generalize W14.drewN nq = W15 at hS15 ⊢
                    obtain ⟨hR, c0, c1, c2, c3, hBW, hXW⟩ := id hS15
                    go_wp2_with fail
                    have hz : itB d n s = [] := by unfold itB; rw [if_neg h0, if_neg h1, if_neg h2, if_neg h3, if_neg h6]
                    go_roundg (gk - 1)
                    case measure => omega
                    case rel => exact ⟨k + 1, by omega, by go_num, by rw [E.out, hz]; exact hR, hBW⟩
        · have hlti : ¬ (k : Int) < (its.length : Int) := by omega
          have hat : (out (its.take k)).length = (out its).length := by rw [List.take_of_length_le (by omega)]
          rw [hat] at hR
          clear hat
          have hD := done_of q (out its) _ 0 wr hR
          rw [if_neg (fun h => Nat.lt_irrefl _ h.2)] at hD
          go_wp2_with fail
          refine hD.mono ?_
          rintro e w5 ⟨rfl, hb5⟩
          clear hD
          go_wp2_with fail
          refine (awake_of _).mono ?_
          rintro e w6 ⟨rfl, hb6⟩
          go_wp2
          go_ret
          have hb5' := hB.trans (hb5.mono hB.size)
          exact ⟨rfl, hb5'.trans (hb6.mono hb5'.size)⟩
end Go.Proofs.Ytjimippblgddbaa
