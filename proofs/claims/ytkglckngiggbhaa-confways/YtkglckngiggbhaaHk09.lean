import Derived.Test.YtkglckngiggbhaaHk08
/- Caught: the program's and the document's. -/
namespace Go.Proofs.Ytkglckngiggbhaa
open Go.RowKit QuorumMath
set_option maxRecDepth 100000
set_option linter.unusedSimpArgs false
set_option linter.unusedVariables false

theorem isIt_of {w : World} {q : Nat} {node : Int} (hq : w.cell? ⟨q, 0, none⟩ = some (.int .i64 node)) (x y : Int) (z : Nat) :
    Calls Try.prog 24 #[.agg #[.int .i64 x, .int .u64 y, .int .u64 (z : Int)], .pointer (some ⟨q, 0, none⟩)] w fun e w' => e = .returned (.bool (x == node)) ∧ w' = w.alloc (.cells #[.int .i64 x, .int .u64 y, .int .u64 (z : Int)] 45) := by
  have hql := World.block_lt_of_cell? w _ hq
  dsimp only at hql
  go_enter Try.func24, Try.ntmps24
  go_wp2
  go_ret
  exact ⟨rfl, rfl⟩

/-- The node's first peer. -/
def peerOf (node : Int) : List Pr → Option Nat
  | [] => none
  | x :: l => if x.1 = node then some x.2.2 else peerOf node l
def caughtM (ps : List Pr) (node : Int) (commit last : Nat) : Bool :=
  match peerOf node ps with
  | none => false
  | some m => decide (commit ≤ m) || decide (last ≤ m + 8)
theorem peerOf_at {ps : List Pr} {i : Nat} {p : Pr} (h : ps[i]? = some p) (n : Int) : peerOf n (ps.drop i) = if p.1 = n then some p.2.2 else peerOf n (ps.drop (i + 1)) := by
  obtain ⟨h1, rfl⟩ := List.getElem?_eq_some_iff.1 h
  rw [List.drop_eq_getElem_cons h1, peerOf]

/-- Where it stands. -/
def IdxP (l : List Pr) (node : Int) (e : Ending) : Prop := ∃ z : Int, e = .returned (.int .i64 z) ∧ ((z = -1 ∧ peerOf node l = none) ∨ ∃ (i : Nat) (p : Pr), z = (i : Int) ∧ l[i]? = some p ∧ peerOf node l = some p.2.2)
set_option maxHeartbeats 2000000 in
/-- slices.IndexFunc: where it stands, and what it has. -/
theorem index_of_peer {w : World} {v : Value} {l : List Pr} (h : Rd peerE w v l) {q : Nat} {node : Int} (hq : w.cell? ⟨q, 0, none⟩ = some (.int .i64 node)) (hlen : l.length ≤ 1000000) :
    Calls Try.prog 23 #[v, .func (.func 24) #[] #[.pointer (some ⟨q, 0, none⟩)]] w fun e w' => IdxP l node e ∧ Below w.heap.size w w' := by
  have hql := World.block_lt_of_cell? w _ hq
  dsimp only at hql
  have hqW : ∀ W, Below w.heap.size w W → W.cell? ⟨q, 0, none⟩ = some (.int .i64 node) := fun W hW => (hW.cell (p := ⟨q, 0, none⟩) hql).trans hq
  have HL : Hid (Rd peerE w v l) := h
  obtain ⟨ao, cap, rfl, -, -⟩ := h.shape
  clear h
  go_enter Try.func23, Try.ntmps23
  go_wp2
  go_loopg [8] l.length (fun g s8 wr => ∃ i : Nat, i + g = l.length ∧ s8 = .int .i64 (i : Int) ∧ Below w.heap.size w wr ∧ Hid (peerOf node (l.drop i) = peerOf node l))
  case atStart => exact ⟨0, by simp, rfl, Below.refl _ _, rfl⟩
  case round =>
    obtain ⟨i, hig, rfl, hb, hfi⟩ := hrel
    by_cases hlt : i < l.length
    · have hlti : (i : Int) < (l.length : Int) := by omega
      obtain ⟨x, hx⟩ : ∃ x, l[i]? = some x := ⟨l[i], List.getElem?_eq_getElem hlt⟩
      obtain ⟨g, off, rfl, c⟩ := rdp_at HL.out hx
      obtain ⟨c0, c1, c2⟩ := c wr hb
      have kf := isIt_of (hqW wr hb) x.1 x.2.1 x.2.2
      have hat := peerOf_at hx node
      have hba := hb.alloc hb.size (.cells #[.int .i64 x.1, .int .u64 x.2.1, .int .u64 (x.2.2 : Int)] 45)
      by_cases ht : x.1 = node
      · have htb : (x.1 == node) = true := by simpa using ht
        have HR : Hid (IdxP l node (.returned (.int .i64 (i : Int)))) := by
          show IdxP _ _ _
          refine ⟨_, rfl, .inr ⟨i, x, rfl, hx, ?_⟩⟩
          rw [← hfi.out, hat, if_pos ht]
        rw [htb] at kf
        clear ht htb hat hx c hfi HL
        go_wp2_with (go_at_call 24; refine kf.mono ?_; rintro e wc ⟨rfl, rfl⟩)
        go_ret
        exact ⟨HR.out, hba⟩
      · have htb : (x.1 == node) = false := by simpa using ht
        have HR : Hid (peerOf node (l.drop (i + 1)) = peerOf node l) := by
          show _ = _
          rw [← hfi.out, hat, if_neg ht]
        rw [htb] at kf
        clear ht htb hat hx c hfi HL
        go_wp2_with (go_at_call 24; refine kf.mono ?_; rintro e wc ⟨rfl, rfl⟩)
        go_roundg (gk - 1)
        case measure => omega
        case rel => exact ⟨i + 1, by omega, by go_num, hba, HR⟩
    · have hlti : ¬ (i : Int) < (l.length : Int) := by omega
      have HR : Hid (IdxP l node (.returned (.int .i64 (-1)))) := by
        show IdxP _ _ _
        refine ⟨_, rfl, .inl ⟨rfl, ?_⟩⟩
        rw [← hfi.out, List.drop_of_length_le (by omega)]
        rfl
      clear hfi HL
      go_wp2
      go_ret
      exact ⟨HR.out, hb⟩

set_option maxHeartbeats 2000000 in
theorem caught_of (ps : List Pr) (pv : Value) (node : Int) (commit last : Nat) (w : World) (hP : Rd peerE w pv ps) (hlen : ps.length ≤ 1000000) (hm : ∀ p ∈ ps, p.2.2 < 18446744073709551616) (hc : commit < 18446744073709551616) (hl : last < 18446744073709551616) : Calls Try.prog 16 #[pv, .int .i64 node, .int .u64 (commit : Int), .int .u64 (last : Int)] w fun e w' => e = .returned (.bool (caughtM ps node commit last)) ∧ Below w.heap.size w w' := by
  obtain ⟨B, HB⟩ : ∃ B, Hid (B = caughtM ps node commit last) := ⟨_, rfl⟩
  rw [← HB.out]
  obtain ⟨q1, q2, q3⟩ := one_box w (.cells #[.int .i64 node] 3)
  have hq0 : (w.alloc (.cells #[.int .i64 node] 3)).cell? ⟨w.heap.size, 0, none⟩ = some (.int .i64 node) := by rw [cells_of_block q2]; rfl
  have ki := index_of_peer (hP.below q3) hq0 hlen
  have HP : Hid (Rd peerE w pv ps) := hP
  obtain ⟨ao, cap, rfl, -, -⟩ := hP.shape
  clear hP q1 q2 hq0
  go_enter Try.func16, Try.ntmps16
  go_wp2_with fail
  refine ki.mono ?_
  rintro e w1 ⟨⟨z, rfl, hz⟩, hb1⟩
  have hb := q3.trans (hb1.mono q3.size)
  clear ki q3 hb1
  rcases hz with ⟨rfl, hn⟩ | ⟨i, p, rfl, hx, hn⟩
  · have E : Hid (B = false) := by show _ = _; rw [HB.out]; unfold caughtM; rw [hn]
    clear hn HB HP
    go_wp2
    go_ret
    exact ⟨by rw [E.out]; rfl, hb⟩
  · have E : Hid (B = (decide (commit ≤ p.2.2) || decide (last ≤ p.2.2 + 8))) := by show _ = _; rw [HB.out]; unfold caughtM; rw [hn]
    obtain ⟨g, off, rfl, c⟩ := rdp_at HP.out hx
    obtain ⟨c0, c1, c2⟩ := c w1 hb
    have hi := (List.getElem?_eq_some_iff.1 hx).1
    have hii : (i : Int) < (ps.length : Int) := by omega
    have hm1 := hm p (List.mem_of_getElem? hx)
    generalize p.2.2 = m at *
    generalize p.2.1 = y at *
    generalize p.1 = x at *
    clear hn HB HP c hx hm
    by_cases h1 : commit ≤ m
    · have h1i : (commit : Int) ≤ (m : Int) := by omega
      have E' : Hid (B = true) := by show _ = _; rw [E.out]; simp [h1]
      clear E
      go_wp2
      go_ret
      exact ⟨by rw [E'.out]; rfl, hb⟩
    · have h1i : ¬ (commit : Int) ≤ (m : Int) := by omega
      by_cases h2 : last ≤ m
      · have h2i : (last : Int) ≤ (m : Int) := by omega
        have E' : Hid (B = true) := by show _ = _; rw [E.out]; simp; omega
        clear E
        go_wp2
        go_ret
        exact ⟨by rw [E'.out]; rfl, hb⟩
      · have h2i : ¬ (last : Int) ≤ (m : Int) := by omega
        have hwr : IntKind.u64.wrap ((last : Int) - (m : Int)) = (last : Int) - (m : Int) := by rw [IntKind.wrap_u64]; omega
        have E' : Hid (B = decide ((last : Int) - (m : Int) ≤ 8)) := by
          show _ = _
          rw [E.out, decide_eq_false h1, Bool.false_or]
          congr 1
          simp only [eq_iff_iff]
          omega
        clear E
        go_wp2
        go_ret
        exact ⟨by rw [E'.out]; rfl, hb⟩

set_option maxHeartbeats 2000000 in
theorem rcaught_of (ps : List Pr) (pv : Value) (node : Int) (commit last : Nat) (w : World) (hP : Rd peerE w pv ps) (hlen : ps.length ≤ 1000000) (hm : ∀ p ∈ ps, p.2.2 < 18446744073709551616) (hc : commit < 18446744073709551616) (hl : last < 18446744073709551616) : Calls Try.prog 17 #[pv, .int .i64 node, .int .u64 (commit : Int), .int .u64 (last : Int)] w fun e w' => e = .returned (.bool (caughtM ps node commit last)) ∧ w' = w := by
  obtain ⟨B, HB⟩ : ∃ B, Hid (B = caughtM ps node commit last) := ⟨_, rfl⟩
  rw [← HB.out]
  have HP : Hid (Rd peerE w pv ps) := hP
  have Hm : Hid (∀ p ∈ ps, p.2.2 < 18446744073709551616) := hm
  obtain ⟨ao, cap, rfl, -, -⟩ := hP.shape
  clear hP hm
  go_enter Try.func17, Try.ntmps17
  go_wp2
  go_loopg [9] ps.length (fun g s9 wr => ∃ i : Nat, i + g = ps.length ∧ s9 = .int .i64 (i : Int) ∧ wr = w ∧ Hid (peerOf node (ps.drop i) = peerOf node ps))
  case atStart => exact ⟨0, by simp, rfl, rfl, rfl⟩
  case round =>
    obtain ⟨i, hig, rfl, rfl, hfi⟩ := hrel
    by_cases hlt : i < ps.length
    · have hlti : (i : Int) < (ps.length : Int) := by omega
      obtain ⟨x, hx⟩ : ∃ x, ps[i]? = some x := ⟨ps[i], List.getElem?_eq_getElem hlt⟩
      obtain ⟨g, off, rfl, c⟩ := rdp_at HP.out hx
      obtain ⟨c0, c1, c2⟩ := c wr (Below.refl _ _)
      have hat : Hid _ := peerOf_at hx node
      have hm1 := Hm.out x (List.mem_of_getElem? hx)
      obtain ⟨x1, x2, m⟩ := x
      dsimp only at c0 c1 c2 hat hm1
      by_cases ht : x1 = node
      · have htb : (x1 == node) = true := by simpa using ht
        have E : Hid (B = (decide (commit ≤ m) || decide (last ≤ m + 8))) := by
          show _ = _
          rw [HB.out]
          unfold caughtM
          rw [← hfi.out, hat.out, if_pos ht]
        subst ht
        clear htb hat hx c hfi HP HB Hm
        by_cases h1 : commit ≤ m
        · have h1i : (commit : Int) ≤ (m : Int) := by omega
          have E' : Hid (B = true) := by show _ = _; rw [E.out]; simp [h1]
          clear E
          go_wp2
          go_ret
          exact ⟨by rw [E'.out]; rfl, rfl⟩
        · have h1i : ¬ (commit : Int) ≤ (m : Int) := by omega
          go_wp2
          go_loopg [11] 9 (fun g s11 wr' => ∃ k : Nat, k + g = 9 ∧ s11 = .int .i64 (k : Int) ∧ wr' = wr ∧ Hid (∀ j : Nat, j < k → m + j < 18446744073709551616 ∧ m + j < last))
          case atStart => exact ⟨0, by simp, rfl, rfl, fun j hj => by omega⟩
          case round =>
            obtain ⟨k, hkg, rfl, rfl, HK⟩ := hrel
            by_cases hk9 : k ≤ 8
            · have hk9i : (k : Int) ≤ 8 := by omega
              have hwk : IntKind.u64.wrap (k : Int) = (k : Int) := by rw [IntKind.wrap_u64]; omega
              by_cases hov : 18446744073709551616 ≤ m + k
              · have hwr : IntKind.u64.wrap ((m : Int) + (k : Int)) = (m : Int) + (k : Int) - 18446744073709551616 := by rw [IntKind.wrap_u64]; omega
                have hlt2 : (m : Int) + (k : Int) - 18446744073709551616 < (m : Int) := by omega
                have E' : Hid (B = true) := by show _ = _; rw [E.out, decide_eq_false h1, Bool.false_or, decide_eq_true_eq]; omega
                clear E HK
                go_wp2
                go_ret
                exact ⟨by rw [E'.out]; rfl, rfl⟩
              · have hwr : IntKind.u64.wrap ((m : Int) + (k : Int)) = (m : Int) + (k : Int) := by rw [IntKind.wrap_u64]; omega
                have hnl : ¬ (m : Int) + (k : Int) < (m : Int) := by omega
                by_cases hge : last ≤ m + k
                · have hgi : (last : Int) ≤ (m : Int) + (k : Int) := by omega
                  have E' : Hid (B = true) := by show _ = _; rw [E.out, decide_eq_false h1, Bool.false_or, decide_eq_true_eq]; omega
                  clear E HK
                  go_wp2
                  go_ret
                  exact ⟨by rw [E'.out]; rfl, rfl⟩
                · have hgi : ¬ (last : Int) ≤ (m : Int) + (k : Int) := by omega
                  have HK2 : Hid (∀ j : Nat, j < k + 1 → m + j < 18446744073709551616 ∧ m + j < last) := fun j hj => by
                    by_cases hjk : j < k
                    · exact HK.out j hjk
                    · obtain rfl : j = k := by omega
                      omega
                  clear HK
                  go_wp2
                  go_roundg (gk - 1)
                  case measure => omega
                  case rel => exact ⟨k + 1, by omega, by go_num, rfl, HK2⟩
            · have hk9i : ¬ (k : Int) ≤ 8 := by omega
              have E' : Hid (B = false) := by
                show _ = _
                have := HK.out 8 (by omega)
                rw [E.out, decide_eq_false h1, Bool.false_or, decide_eq_false_iff_not]
                omega
              clear E HK
              go_wp2
              go_ret
              exact ⟨by rw [E'.out]; rfl, rfl⟩
      · have htb : (x1 == node) = false := by simpa using ht
        have HR : Hid (peerOf node (ps.drop (i + 1)) = peerOf node ps) := by
          show _ = _
          rw [← hfi.out, hat.out, if_neg ht]
        clear hat hx c hfi
        go_wp2
        go_roundg (gk - 1)
        case measure => omega
        case rel => exact ⟨i + 1, by omega, by go_num, rfl, HR⟩
    · have hlti : ¬ (i : Int) < (ps.length : Int) := by omega
      have E : Hid (B = false) := by
        show _ = _
        have := hfi.out
        rw [List.drop_of_length_le (by omega)] at this
        rw [HB.out]
        unfold caughtM
        rw [← this]
        rfl
      clear hfi HP HB
      go_wp2
      go_ret
      exact ⟨by rw [E.out]; rfl, rfl⟩
end Go.Proofs.Ytkglckngiggbhaa

