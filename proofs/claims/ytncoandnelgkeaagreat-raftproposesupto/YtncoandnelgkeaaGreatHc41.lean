import Derived.Test.YtncoandnelgkeaaGreatHc39
import Derived.Test.YtncoandnelgkeaaGreatHc40
/- The program's isNode, isNodeOrNobody, mayBeNumbers; the document's node. -/
namespace Go.Proofs.YtncoandnelgkeaaGreat
open Go.RowKit QuorumMath RlogMath RaftMath
set_option maxRecDepth 100000
set_option linter.unusedSimpArgs false
set_option linter.unusedVariables false

theorem pnode_of (z : Int) (w : World) : Calls Tryz.prog 35 #[.int .i64 z] w fun e w' => e = .returned (.bool (nodeB z)) ∧ w' = w := by
  obtain ⟨B, HB⟩ : ∃ B, Hid (B = nodeB z) := ⟨_, rfl⟩
  rw [← HB.out]
  by_cases h1 : 1 ≤ z
  · by_cases h2 : z ≤ 7
    · have E : Hid (B = true) := by show _ = _; rw [HB.out]; simp [nodeB, h1, h2]
      clear HB
      go_enter Tryz.func35, Tryz.ntmps35
      go_wp2
      go_ret
      exact ⟨by rw [E.out]; rfl, rfl⟩
    · have E : Hid (B = false) := by show _ = _; rw [HB.out]; simp [nodeB, h2]
      clear HB
      go_enter Tryz.func35, Tryz.ntmps35
      go_wp2
      go_ret
      exact ⟨by rw [E.out]; rfl, rfl⟩
  · have E : Hid (B = false) := by show _ = _; rw [HB.out]; simp [nodeB, h1]
    clear HB
    go_enter Tryz.func35, Tryz.ntmps35
    go_wp2
    go_ret
    exact ⟨by rw [E.out]; rfl, rfl⟩

theorem rnode_of (z : Int) (w : World) : Calls Tryz.prog 31 #[.int .i64 z] w fun e w' => e = .returned (.bool (nodeB z)) ∧ w' = w := by
  obtain ⟨B, HB⟩ : ∃ B, Hid (B = nodeB z) := ⟨_, rfl⟩
  rw [← HB.out]
  by_cases h1 : 1 ≤ z
  · by_cases h2 : z ≤ 7
    · have E : Hid (B = true) := by show _ = _; rw [HB.out]; simp [nodeB, h1, h2]
      clear HB
      go_enter Tryz.func31, Tryz.ntmps31
      go_wp2
      go_ret
      exact ⟨by rw [E.out]; rfl, rfl⟩
    · have E : Hid (B = false) := by show _ = _; rw [HB.out]; simp [nodeB, h2]
      clear HB
      go_enter Tryz.func31, Tryz.ntmps31
      go_wp2
      go_ret
      exact ⟨by rw [E.out]; rfl, rfl⟩
  · have E : Hid (B = false) := by show _ = _; rw [HB.out]; simp [nodeB, h1]
    clear HB
    go_enter Tryz.func31, Tryz.ntmps31
    go_wp2
    go_ret
    exact ⟨by rw [E.out]; rfl, rfl⟩

/-- A node, or nobody. -/
def nobB (x : Int) : Bool := decide (0 ≤ x) && decide (x ≤ 7)
theorem nob_node {x : Int} (h : x ≠ 0) : nobB x = nodeB x := by
  unfold nobB nodeB
  by_cases h1 : 0 ≤ x
  · rw [decide_eq_true h1, decide_eq_true (by omega : 1 ≤ x)]
  · rw [decide_eq_false h1, decide_eq_false (by omega : ¬ 1 ≤ x)]
theorem pnob_of (x : Int) (w : World) : Calls Tryz.prog 80 #[.int .i64 x] w fun e w' => e = .returned (.bool (nobB x)) ∧ w' = w := by
  have kn := pnode_of x w
  by_cases h : x = 0
  · subst h
    clear kn
    go_enter Tryz.func80, Tryz.ntmps80
    go_wp2
    go_ret
    exact ⟨rfl, rfl⟩
  · have hb : (x == 0) = false := by simpa using h
    rw [nob_node h]
    generalize nodeB x = B at *
    go_enter Tryz.func80, Tryz.ntmps80
    go_wp2_with fail
    refine kn.mono ?_
    rintro e w1 ⟨rfl, hw⟩
    subst hw
    go_wp2
    go_ret
    exact ⟨rfl, rfl⟩
def numB (r : Mr) : Bool := nodeB r.node && decide (r.term ≤ 4611686018427387904) && nobB r.vote && nobB r.leads && decide (0 ≤ r.elapsed) && decide (r.elapsed ≤ 1000)
set_option maxHeartbeats 8000000 in
theorem pnum_of (n : Nat) (r : Mr) (v : Value) (w : World) (hS : RsV n w v r) : Calls Tryz.prog 38 #[v] w fun e w' => e = .returned (.bool (numB r)) ∧ Below w.heap.size w w' := by
  obtain ⟨z, rfl, hz, hR⟩ := hS
  obtain ⟨r', zs, ⟨ba, bn, bc⟩, ⟨la, ln, lc⟩, ⟨va, vn, vc⟩, ⟨pa, pn, pc⟩⟩ := z
  obtain rfl : r' = r := hz
  obtain ⟨nd, tm, vo, ⟨bi, bt, bk, bd⟩, lg, cm, ro, le, el, vt, pe⟩ := r'
  obtain ⟨B, HB⟩ : ∃ B, Hid (B = numB ⟨nd, tm, vo, ⟨bi, bt, bk, bd⟩, lg, cm, ro, le, el, vt, pe⟩) := ⟨_, rfl⟩
  rw [← HB.out]
  have HB : Hid (B = (nodeB nd && decide (tm ≤ 4611686018427387904) && nobB vo && nobB le && decide (0 ≤ el) && decide (el ≤ 1000))) := HB
  dsimp only [rv]
  have kn := fun W => pnode_of nd W
  have kvo := fun W => pnob_of vo W
  have kle := fun W => pnob_of le W
  obtain ⟨z1, B1, hb1⟩ := one_box w (.cells #[.int .i64 nd, .int .u64 (tm : Int), .int .i64 vo, .int .u64 (bi : Int), .int .u64 (bt : Int), .int .i64 bk, .slice ba bn bc, .slice la ln lc, .int .u64 (cm : Int), .int .i64 ro, .int .i64 le, .int .i64 el, .slice va vn vc, .slice pa pn pc] 32)
  clear hR B1 z1
  cases hq0 : nodeB nd with
  | false =>
    rw [hq0] at HB kn
    have E : Hid (B = false) := by show _ = _; rw [HB.out]; simp
    clear HB
    go_enter Tryz.func38, Tryz.ntmps38
    go_wp2_with fail
    refine (kn _).mono ?_
    rintro e w0 ⟨rfl, hw0⟩
    rw [hw0]
    clear hw0
    go_wp2
    go_ret
    exact ⟨by rw [E.out]; rfl, hb1⟩
  | true =>
    rw [hq0] at HB kn
    by_cases h1 : tm ≤ 4611686018427387904
    · rw [decide_eq_true h1] at HB
      have hd1 : decide ((tm : Int) ≤ 4611686018427387904) = true := by simp; omega
      have H1 : Hid _ := h1
      clear h1
      cases hq2 : nobB vo with
      | false =>
        rw [hq2] at HB kvo
        have E : Hid (B = false) := by show _ = _; rw [HB.out]; simp
        clear HB
        go_enter Tryz.func38, Tryz.ntmps38
        go_wp2_with fail
        refine (kn _).mono ?_
        rintro e w0 ⟨rfl, hw0⟩
        rw [hw0]
        clear hw0
        go_wp2_with fail
        refine (kvo _).mono ?_
        rintro e w2 ⟨rfl, hw2⟩
        rw [hw2]
        clear hw2
        go_wp2
        go_ret
        exact ⟨by rw [E.out]; rfl, hb1⟩
      | true =>
        rw [hq2] at HB kvo
        cases hq3 : nobB le with
        | false =>
          rw [hq3] at HB kle
          have E : Hid (B = false) := by show _ = _; rw [HB.out]; simp
          clear HB
          go_enter Tryz.func38, Tryz.ntmps38
          go_wp2_with fail
          refine (kn _).mono ?_
          rintro e w0 ⟨rfl, hw0⟩
          rw [hw0]
          clear hw0
          go_wp2_with fail
          refine (kvo _).mono ?_
          rintro e w2 ⟨rfl, hw2⟩
          rw [hw2]
          clear hw2
          go_wp2_with fail
          refine (kle _).mono ?_
          rintro e w3 ⟨rfl, hw3⟩
          rw [hw3]
          clear hw3
          go_wp2
          go_ret
          exact ⟨by rw [E.out]; rfl, hb1⟩
        | true =>
          rw [hq3] at HB kle
          by_cases h4 : 0 ≤ el
          · rw [decide_eq_true h4] at HB
            have hd4 : decide ((0 : Int) ≤ el) = true := by simp; omega
            have H4 : Hid _ := h4
            clear h4
            by_cases h5 : el ≤ 1000
            · rw [decide_eq_true h5] at HB
              have hd5 : decide (el ≤ 1000) = true := by simp; omega
              have H5 : Hid _ := h5
              clear h5
              have E : Hid (B = true) := by show _ = _; rw [HB.out]; rfl
              clear HB
              go_enter Tryz.func38, Tryz.ntmps38
              go_wp2_with fail
              refine (kn _).mono ?_
              rintro e w0 ⟨rfl, hw0⟩
              rw [hw0]
              clear hw0
              go_wp2_with fail
              refine (kvo _).mono ?_
              rintro e w2 ⟨rfl, hw2⟩
              rw [hw2]
              clear hw2
              go_wp2_with fail
              refine (kle _).mono ?_
              rintro e w3 ⟨rfl, hw3⟩
              rw [hw3]
              clear hw3
              go_wp2
              go_ret
              exact ⟨by rw [E.out]; rfl, hb1⟩
            · rw [decide_eq_false h5] at HB
              have E : Hid (B = false) := by show _ = _; rw [HB.out]; simp
              have hd5 : decide (el ≤ 1000) = false := by simp; omega
              clear h5
              clear HB
              go_enter Tryz.func38, Tryz.ntmps38
              go_wp2_with fail
              refine (kn _).mono ?_
              rintro e w0 ⟨rfl, hw0⟩
              rw [hw0]
              clear hw0
              go_wp2_with fail
              refine (kvo _).mono ?_
              rintro e w2 ⟨rfl, hw2⟩
              rw [hw2]
              clear hw2
              go_wp2_with fail
              refine (kle _).mono ?_
              rintro e w3 ⟨rfl, hw3⟩
              rw [hw3]
              clear hw3
              go_wp2
              go_ret
              exact ⟨by rw [E.out]; rfl, hb1⟩
          · rw [decide_eq_false h4] at HB
            have E : Hid (B = false) := by show _ = _; rw [HB.out]; simp
            have hd4 : decide ((0 : Int) ≤ el) = false := by simp; omega
            clear h4
            clear HB
            go_enter Tryz.func38, Tryz.ntmps38
            go_wp2_with fail
            refine (kn _).mono ?_
            rintro e w0 ⟨rfl, hw0⟩
            rw [hw0]
            clear hw0
            go_wp2_with fail
            refine (kvo _).mono ?_
            rintro e w2 ⟨rfl, hw2⟩
            rw [hw2]
            clear hw2
            go_wp2_with fail
            refine (kle _).mono ?_
            rintro e w3 ⟨rfl, hw3⟩
            rw [hw3]
            clear hw3
            go_wp2
            go_ret
            exact ⟨by rw [E.out]; rfl, hb1⟩
    · rw [decide_eq_false h1] at HB
      have E : Hid (B = false) := by show _ = _; rw [HB.out]; simp
      have hd1 : decide ((tm : Int) ≤ 4611686018427387904) = false := by simp; omega
      clear h1
      clear HB
      go_enter Tryz.func38, Tryz.ntmps38
      go_wp2_with fail
      refine (kn _).mono ?_
      rintro e w0 ⟨rfl, hw0⟩
      rw [hw0]
      clear hw0
      go_wp2
      go_ret
      exact ⟨by rw [E.out]; rfl, hb1⟩
end Go.Proofs.YtncoandnelgkeaaGreat

/- The program's mayBeLog, mayBePeers, mayBeRole, Check. -/
namespace Go.Proofs.YtncoandnelgkeaaGreat
open Go.RowKit QuorumMath RlogMath RaftMath
set_option maxRecDepth 100000
set_option linter.unusedSimpArgs false
set_option linter.unusedVariables false

def logB (r : Mr) : Bool := mayB r.base r.log && decide (endT r ≤ r.term) && decide (r.base.idx ≤ r.commit) && decide (r.commit ≤ endI r)
set_option maxHeartbeats 8000000 in
theorem plog_of (n : Nat) (r : Mr) (v : Value) (w : World) (hS : RsV n w v r) (hbo : OkM r.base) (hlo : ∀ e ∈ r.log, OkM e) (hlg : r.log.length ≤ 1000000) : Calls Tryz.prog 39 #[v] w fun e w' => e = .returned (.bool (logB r)) ∧ Below w.heap.size w w' := by
  obtain ⟨z, rfl, hz, hR⟩ := hS
  obtain ⟨r', zs, ⟨ba, bn, bc⟩, ⟨la, ln, lc⟩, ⟨va, vn, vc⟩, ⟨pa, pn, pc⟩⟩ := z
  obtain rfl : r' = r := hz
  obtain ⟨nd, tm, vo, ⟨bi, bt, bk, bd⟩, lg, cm, ro, le, el, vt, pe⟩ := r'
  obtain ⟨B, HB⟩ : ∃ B, Hid (B = logB ⟨nd, tm, vo, ⟨bi, bt, bk, bd⟩, lg, cm, ro, le, el, vt, pe⟩) := ⟨_, rfl⟩
  rw [← HB.out]
  have HB : Hid (B = (mayB ⟨bi, bt, bk, bd⟩ lg && decide ((lastM ⟨bi, bt, bk, bd⟩ lg).2 ≤ tm) && decide (bi ≤ cm) && decide (cm ≤ (lastM ⟨bi, bt, bk, bd⟩ lg).1))) := HB
  dsimp only [rv] at *
  have hml : mes zs = lg := hR.2.2.1
  have hzl : zs.length ≤ 1000000 := by have := congrArg List.length hml; rw [List.length_map] at this; omega
  have hzo := okz_of hml hlo
  obtain ⟨z1, B1, hb1⟩ := one_box w (.cells #[.int .i64 nd, .int .u64 (tm : Int), .int .i64 vo, .int .u64 (bi : Int), .int .u64 (bt : Int), .int .i64 bk, .slice ba bn bc, .slice la ln lc, .int .u64 (cm : Int), .int .i64 ro, .int .i64 le, .int .i64 el, .slice va vn vc, .slice pa pn pc] 32)
  have kl := plast_of (⟨bi, bt, bk, bd⟩, ba, bn, bc) zs (.slice la ln lc) _ (hR.2.1.below hb1).v (by omega)
  have HKC : Hid (∀ W, Below w.heap.size w W → _) := fun W hW => pcheck_of (⟨bi, bt, bk, bd⟩, ba, bn, bc) zs (.slice la ln lc) W (hR.1.below hW).v (hR.2.1.below hW).v ⟨hbo.1, hbo.2.1, hbo.2.2.1⟩ (fun z hz => (hzo z hz).1) (by omega) hbo.2.2.2
  rw [hml] at kl HKC
  generalize lastM ⟨bi, bt, bk, bd⟩ lg = LT at *
  obtain ⟨E, ET⟩ := LT
  dsimp only [lgv, lastV] at *
  rw [z1] at kl
  clear hR hml hzl hzo hbo hlo
  go_enter Tryz.func39, Tryz.ntmps39
  go_wp2_with fail
  refine kl.mono ?_
  rintro e w3 ⟨rfl, hb3⟩
  have C3 := (hb3.block w.heap.size (by omega)).trans B1
  have hb03 := hb1.trans (hb3.mono (by omega))
  have hs3 : w.heap.size + 1 ≤ w3.heap.size := by have := hb3.size; rw [z1] at this; exact this
  have kc := HKC.out w3 hb03
  obtain ⟨-, o0, o1, o2, o3, o4, o5, o6, o7, o8, o9, o10, o11, o12, o13⟩ := r14_cells C3
  clear kl hb3 HKC z1 B1 hb1
  go_wp2_with fail
  refine kc.mono ?_
  rintro e w4 ⟨rfl, hb4⟩
  have C4 := (hb4.block w.heap.size (by omega)).trans C3
  have hb2 := hb03.trans (hb4.mono hb03.size)
  clear kc o0 o1 o2 o3 o4 o5 o6 o7 o8 o9 o10 o11 o12 o13 C3 hb4 hb03
  obtain ⟨-, o0, o1, o2, o3, o4, o5, o6, o7, o8, o9, o10, o11, o12, o13⟩ := r14_cells C4
  cases hm : mayB ⟨bi, bt, bk, bd⟩ lg with
  | false =>
    rw [hm] at HB
    have E0 : Hid (B = false) := by show _ = _; rw [HB.out]; simp
    dsimp only [codeB]
    clear HB hm
    go_wp2
    go_ret
    exact ⟨by rw [E0.out]; rfl, hb2⟩
  | true =>
    rw [hm] at HB
    dsimp only [codeB]
    clear hm
    by_cases h0 : ET ≤ tm
    · rw [decide_eq_true h0] at HB
      have hd0 : decide ((ET : Int) ≤ (tm : Int)) = true := by simp; omega
      have hn0 : decide (ET ≤ tm) = true := decide_eq_true h0
      have H0 : Hid _ := h0
      clear h0
      by_cases h1 : bi ≤ cm
      · rw [decide_eq_true h1] at HB
        have hd1 : decide ((bi : Int) ≤ (cm : Int)) = true := by simp; omega
        have hn1 : decide (bi ≤ cm) = true := decide_eq_true h1
        have H1 : Hid _ := h1
        clear h1
        by_cases h2 : cm ≤ E
        · rw [decide_eq_true h2] at HB
          have hd2 : decide ((cm : Int) ≤ (E : Int)) = true := by simp; omega
          have hn2 : decide (cm ≤ E) = true := decide_eq_true h2
          have H2 : Hid _ := h2
          clear h2
          have E0 : Hid (B = true) := by show _ = _; rw [HB.out]; rfl
          clear HB
          go_wp2
          go_ret
          exact ⟨by rw [E0.out]; rfl, hb2⟩
        · rw [decide_eq_false h2] at HB
          have E0 : Hid (B = false) := by show _ = _; rw [HB.out]; simp
          have hd2 : decide ((cm : Int) ≤ (E : Int)) = false := by simp; omega
          have hn2 : decide (cm ≤ E) = false := decide_eq_false h2
          clear h2
          clear HB
          go_wp2
          go_ret
          exact ⟨by rw [E0.out]; rfl, hb2⟩
      · rw [decide_eq_false h1] at HB
        have E0 : Hid (B = false) := by show _ = _; rw [HB.out]; simp
        have hd1 : decide ((bi : Int) ≤ (cm : Int)) = false := by simp; omega
        have hn1 : decide (bi ≤ cm) = false := decide_eq_false h1
        clear h1
        clear HB
        go_wp2
        go_ret
        exact ⟨by rw [E0.out]; rfl, hb2⟩
    · rw [decide_eq_false h0] at HB
      have E0 : Hid (B = false) := by show _ = _; rw [HB.out]; simp
      have hd0 : decide ((ET : Int) ≤ (tm : Int)) = false := by simp; omega
      have hn0 : decide (ET ≤ tm) = false := decide_eq_false h0
      clear h0
      clear HB
      go_wp2
      go_ret
      exact ⟨by rw [E0.out]; rfl, hb2⟩
def eqP (E : Nat) (p : Mp) (x : Int) : Bool := decide (p.node = x) && decide (p.mat < p.next) && decide (p.next ≤ E + 1)
set_option maxHeartbeats 4000000 in
theorem peerC_of (p : Mp) (x : Int) (E c : Nat) (w : World) (hc : w.cell? ⟨c, 0, none⟩ = some (.int .u64 (E : Int))) (hE : E < 18446744073709551615) : Calls Tryz.prog 116 #[.agg #[.int .i64 p.node, .int .u64 (p.next : Int), .int .u64 (p.mat : Int)], .int .i64 x, .pointer (some ⟨c, 0, none⟩)] w fun e w' => e = .returned (.bool (eqP E p x)) ∧ Below w.heap.size w w' := by
  obtain ⟨pnd, nx, pm⟩ := p
  obtain ⟨B, HB⟩ : ∃ B, Hid (B = (decide (pnd = x) && decide (pm < nx) && decide (nx ≤ E + 1))) := ⟨_, rfl⟩
  rw [show eqP E ⟨pnd, nx, pm⟩ x = B from HB.out.symm]
  dsimp only
  obtain ⟨z1, PB5, hb5⟩ := one_box w (.cells #[.int .i64 pnd, .int .u64 (nx : Int), .int .u64 (pm : Int)] 71)
  have hcl : c < w.heap.size := World.block_lt_of_cell? w _ hc
  have hc5 : (w.alloc (.cells #[.int .i64 pnd, .int .u64 (nx : Int), .int .u64 (pm : Int)] 71)).cell? ⟨c, 0, none⟩ = some (.int .u64 (E : Int)) := (hb5.cell (p := ⟨c, 0, none⟩) hcl).trans hc
  have hw : IntKind.u64.wrap ((E : Int) + 1) = (E : Int) + 1 := IntWalk.u64_in _ (by omega)
  clear PB5 z1 hE
  by_cases h1 : pnd = x
  · rw [decide_eq_true h1] at HB
    have hd1 : (pnd == x) = true := by simpa using h1
    subst h1
    by_cases h2 : pm < nx
    · rw [decide_eq_true h2] at HB
      have hd2 : decide ((pm : Int) < (nx : Int)) = true := by simp; omega
      have hn2 : decide (pm < nx) = true := decide_eq_true h2
      by_cases h3 : nx ≤ E + 1
      · rw [decide_eq_true h3] at HB
        have hd3 : decide ((nx : Int) ≤ (E : Int) + 1) = true := by simp; omega
        have E0 : Hid (B = true) := by show _ = _; rw [HB.out]; rfl
        clear HB h2 h3
        go_enter Tryz.func116, Tryz.ntmps116
        go_wp2
        go_ret
        exact ⟨by rw [E0.out]; rfl, hb5⟩
      · rw [decide_eq_false h3] at HB
        have hd3 : decide ((nx : Int) ≤ (E : Int) + 1) = false := by simp; omega
        have E0 : Hid (B = false) := by show _ = _; rw [HB.out]; rfl
        clear HB h2 h3
        go_enter Tryz.func116, Tryz.ntmps116
        go_wp2
        go_ret
        exact ⟨by rw [E0.out]; rfl, hb5⟩
    · rw [decide_eq_false h2] at HB
      have hd2 : decide ((pm : Int) < (nx : Int)) = false := by simp; omega
      have hn2 : decide (pm < nx) = false := decide_eq_false h2
      have E0 : Hid (B = false) := by show _ = _; rw [HB.out]; simp
      clear HB h2
      go_enter Tryz.func116, Tryz.ntmps116
      go_wp2
      go_ret
      exact ⟨by rw [E0.out]; rfl, hb5⟩
  · rw [decide_eq_false h1] at HB
    have hd1 : (pnd == x) = false := by simpa using h1
    have E0 : Hid (B = false) := by show _ = _; rw [HB.out]; simp
    clear HB
    go_enter Tryz.func116, Tryz.ntmps116
    go_wp2
    go_ret
    exact ⟨by rw [E0.out]; rfl, hb5⟩
/-- Are they alike, one by one? -/
def eqAll (E : Nat) : List Mp → List Int → Bool
  | [], [] => true
  | p :: ps, x :: xs => eqP E p x && eqAll E ps xs
  | _, _ => false
theorem eqAll_len {E : Nat} : ∀ {ps : List Mp} {xs : List Int}, ps.length ≠ xs.length → eqAll E ps xs = false
  | [], [], h => absurd rfl h
  | [], _ :: _, _ => rfl
  | _ :: _, [], _ => rfl
  | p :: ps, x :: xs, h => by
    show (eqP E p x && eqAll E ps xs) = false
    rw [eqAll_len (by simpa using h), Bool.and_false]
theorem eqAll_at {E : Nat} {ps : List Mp} {xs : List Int} {k : Nat} {p : Mp} {x : Int} (hp : ps[k]? = some p) (hx : xs[k]? = some x) : eqAll E (ps.drop k) (xs.drop k) = (eqP E p x && eqAll E (ps.drop (k + 1)) (xs.drop (k + 1))) := by
  obtain ⟨h1, rfl⟩ := List.getElem?_eq_some_iff.1 hp
  obtain ⟨h2, rfl⟩ := List.getElem?_eq_some_iff.1 hx
  rw [List.drop_eq_getElem_cons h1, List.drop_eq_getElem_cons h2, eqAll]
set_option maxHeartbeats 4000000 in
theorem eqfP_of (ps : List Mp) (pv : Value) (xs : List Int) (xv : Value) (E c : Nat) (w : World) (hP : Rd peerN w pv ps) (hX : Rd intE w xv xs) (hc : w.cell? ⟨c, 0, none⟩ = some (.int .u64 (E : Int))) (hE : E < 18446744073709551615) (hl : ps.length ≤ 1000000) (hlx : xs.length ≤ 1000000) : Calls Tryz.prog 115 #[pv, xv, .func (.func 116) #[] #[.pointer (some ⟨c, 0, none⟩)]] w fun e w' => e = .returned (.bool (eqAll E ps xs)) ∧ Below w.heap.size w w' := by
  obtain ⟨R, HR⟩ : ∃ R, Hid (R = eqAll E ps xs) := ⟨_, rfl⟩
  rw [← HR.out]
  have HK : Hid (∀ p x W, Below w.heap.size w W → _) := fun p x W hW => peerC_of p x E c W ((hW.cell (p := ⟨c, 0, none⟩) (World.block_lt_of_cell? w _ hc)).trans hc) hE
  have HP : Hid (Rd peerN w pv ps) := hP
  have HX : Hid (Rd intE w xv xs) := hX
  obtain ⟨pa, pc, rfl, -, -⟩ := hP.shape
  obtain ⟨xa, xc, rfl, -, -⟩ := hX.shape
  clear hP hX
  by_cases hll : ps.length = xs.length
  · have hlb : ((ps.length : Int) != (xs.length : Int)) = false := by simp; omega
    have HLL : Hid (ps.length = xs.length) := hll
    have hlj : (ps.length : Int) = (xs.length : Int) := by omega
    have HR0 : Hid (R = eqAll E (ps.drop 0) (xs.drop 0)) := HR
    have HLJ : Hid _ := hlj
    clear hll hlj
    go_enter Tryz.func115, Tryz.ntmps115
    go_wp2
    go_loopg [7, 8, 9, 17] ps.length (fun gh s7 s8 s9 s17 wr => ∃ k : Nat, k + gh = ps.length ∧ s17 = .int .i64 (k : Int) ∧ Below w.heap.size w wr ∧ Hid (R = eqAll E (ps.drop k) (xs.drop k)))
    case atStart => exact ⟨0, by simp, rfl, Below.refl _ _, HR0⟩
    case round =>
      obtain ⟨k, hkg, rfl, hbr, HN⟩ := hrel
      by_cases hlt : k < ps.length
      · have hlti : (k : Int) < (ps.length : Int) := by omega
        have hltx : (k : Int) < (xs.length : Int) := by have := HLL.out; omega
        have hp : ps[k]? = some ps[k] := List.getElem?_eq_getElem hlt
        obtain ⟨p, hpp⟩ : ∃ p, p = ps[k] := ⟨_, rfl⟩
        rw [← hpp] at hp
        clear hpp
        have hx : ∃ x, xs[k]? = some x := ⟨xs[k]'(by have := HLL.out; omega), List.getElem?_eq_getElem _⟩
        obtain ⟨x, hx⟩ := hx
        obtain ⟨b, off, rfl, cc⟩ := rdpn_at HP.out hp
        obtain ⟨d0, d1, d2⟩ := cc wr hbr
        obtain ⟨xb, xof, rfl, cx⟩ := rdi_at HX.out hx
        have hN := HN.out
        rw [eqAll_at hp hx] at hN
        obtain ⟨pnd, nx, pm⟩ := p
        dsimp only at d0 d1 d2 hN
        obtain ⟨z1, PB5, hb5⟩ := one_box wr (.cells #[.int .i64 pnd, .int .u64 (nx : Int), .int .u64 (pm : Int)] 71)
        have hb05 := hbr.trans (hb5.mono hbr.size)
        have x0 := cx _ hb05
        have kp := HK.out ⟨pnd, nx, pm⟩ x _ hb05
        dsimp only at kp
        clear cc cx hp hx HN PB5 z1
        cases hq : eqP E ⟨pnd, nx, pm⟩ x with
        | true =>
          rw [hq] at hN kp
          have E2 : Hid (R = eqAll E (ps.drop (k + 1)) (xs.drop (k + 1))) := hN
          clear hN hq
          go_wp2_with fail
          refine kp.mono ?_
          rintro e w6 ⟨rfl, hb6⟩
          have hb06 := hb05.trans (hb6.mono hb05.size)
          clear kp
          go_wp2
          go_roundg (gk - 1)
          case measure => omega
          case rel => exact ⟨k + 1, by omega, by go_num, hb06, E2⟩
        | false =>
          rw [hq] at hN kp
          have E2 : Hid (R = false) := hN
          clear hN hq
          go_wp2_with fail
          refine kp.mono ?_
          rintro e w6 ⟨rfl, hb6⟩
          have hb06 := hb05.trans (hb6.mono hb05.size)
          clear kp
          go_wp2
          go_ret
          exact ⟨by rw [E2.out]; rfl, hb06⟩
      · have hlti : ¬ (k : Int) < (ps.length : Int) := by omega
        have E2 : Hid (R = true) := by show _ = _; rw [HN.out, List.drop_eq_nil_of_le (by omega), List.drop_eq_nil_of_le (by have := HLL.out; omega)]; rfl
        clear HN
        go_wp2
        go_ret
        exact ⟨by rw [E2.out]; rfl, hbr⟩
  · have hlb : ((ps.length : Int) != (xs.length : Int)) = true := by simp; omega
    have E2 : Hid (R = false) := by show _ = _; rw [HR.out]; exact eqAll_len hll
    clear HR hll
    go_enter Tryz.func115, Tryz.ntmps115
    go_wp2
    go_ret
    exact ⟨by rw [E2.out]; rfl, Below.refl _ _⟩
end Go.Proofs.YtncoandnelgkeaaGreat

/- The program's mayBePeers, mayBeRole, Check. -/
namespace Go.Proofs.YtncoandnelgkeaaGreat
open Go.RowKit QuorumMath RlogMath RaftMath
set_option maxRecDepth 100000
set_option linter.unusedSimpArgs false
set_option linter.unusedVariables false

set_option maxHeartbeats 8000000 in
theorem ppeers_of (n : Nat) (r : Mr) (v : Value) (w : World) (hS : RsV n w v r) (hm : mayB r.base r.log = true) (hbo : OkM r.base) (hlo : ∀ e ∈ r.log, OkM e) (hpl : r.peers.length ≤ 1000000) : Calls Tryz.prog 82 #[v] w fun e w' => e = .returned (.bool (eqAll (endI r) r.peers (votR r))) ∧ Below w.heap.size w w' := by
  obtain ⟨z, rfl, hz, hR⟩ := hS
  obtain ⟨r', zs, ⟨ba, bn, bc⟩, ⟨la, ln, lc⟩, ⟨va, vn, vc⟩, ⟨pa, pn, pc⟩⟩ := z
  obtain rfl : r' = r := hz
  obtain ⟨nd, tm, vo, ⟨bi, bt, bk, bd⟩, lg, cm, ro, le, el, vt, pe⟩ := r'
  dsimp only [rv, endI, votR] at *
  have hml : mes zs = lg := hR.2.2.1
  have hzl : zs.length ≤ 1000000 := by have := congrArg List.length hml; rw [List.length_map] at this; have := (may_last hm).2.2; omega
  have hzo := okz_of hml hlo
  obtain ⟨z1, B1, hb1⟩ := one_box w (.cells #[.int .i64 nd, .int .u64 (tm : Int), .int .i64 vo, .int .u64 (bi : Int), .int .u64 (bt : Int), .int .i64 bk, .slice ba bn bc, .slice la ln lc, .int .u64 (cm : Int), .int .i64 ro, .int .i64 le, .int .i64 el, .slice va vn vc, .slice pa pn pc] 32)
  have kl := plast_of (⟨bi, bt, bk, bd⟩, ba, bn, bc) zs (.slice la ln lc) _ (hR.2.1.below hb1).v (by omega)
  have HV : Hid (∀ W, Below w.heap.size w W → _) := fun W hW => pvot_c (⟨bi, bt, bk, bd⟩, ba, bn, bc) zs (.slice la ln lc) W (hR.1.below hW).v (hR.2.1.below hW).v ⟨hbo.1, hbo.2.1, hbo.2.2.1⟩ (fun z hz => (hzo z hz).1) (by omega) hbo.2.2.2 (fun z hz => (hzo z hz).2)
  rw [hml] at kl HV
  have hvl : (votM ⟨bi, bt, bk, bd⟩ lg).length ≤ 7 := may_vlen hm
  have hend : (lastM ⟨bi, bt, bk, bd⟩ lg).1 ≤ 4611686018427392000 := by have := may_last hm; dsimp only at this; omega
  have HPR : Hid (∀ W, Below w.heap.size w W → Rd peerN W (.slice pa pn pc) pe) := fun W hW => hR.2.2.2.2.rd.below hW
  generalize lastM ⟨bi, bt, bk, bd⟩ lg = LT at *
  obtain ⟨E, ET⟩ := LT
  dsimp only [lgv, lastV] at *
  have hE : E < 18446744073709551615 := by omega
  generalize votM ⟨bi, bt, bk, bd⟩ lg = V at *
  have HEE : Hid (E < 18446744073709551615) := hE
  rw [z1] at kl
  clear hR hml hzl hzo hbo hlo hm
  go_enter Tryz.func82, Tryz.ntmps82
  go_wp2_with fail
  refine kl.mono ?_
  rintro e w3 ⟨rfl, hb3⟩
  have B3 := (hb3.block w.heap.size (by omega)).trans B1
  have hb03 := hb1.trans (hb3.mono (by omega))
  have hs3 : w.heap.size + 1 ≤ w3.heap.size := by have := hb3.size; rw [z1] at this; exact this
  obtain ⟨W5, hW5⟩ : ∃ W, w3.alloc (.cells #[.int .u64 (E : Int)] 22) = W := ⟨_, rfl⟩
  obtain ⟨y1, C5, hb5⟩ := one_box w3 (.cells #[.int .u64 (E : Int)] 22)
  rw [hW5] at y1 C5 hb5
  have B5 := (hb5.block w.heap.size (by omega)).trans B3
  have hb05 := hb03.trans (hb5.mono hb03.size)
  clear kl hb3 z1 B1 hb1 B3 hE hend
  have hE : E < 18446744073709551615 := HEE.out
  go_wp2
  (try simp only [Exit.inBlock, Exit.then])
  generalize W5 = w5 at *
  refine wp_region_L (fun W => Below w5.heap.size w5 W) [] (by kernel_rfl) ?_
  have hbd : Below w5.heap.size w5 w5.drew := (Below.refl _ w5).drew
  have HCL : Hid (∀ W, Below w5.heap.size w5 W → _) := fun W hW => r14_cells ((hW.block w.heap.size (by omega)).trans B5)
  have kv := HV.out w5.drew (hb05.trans (hbd.mono hb05.size))
  generalize w5.drew = wd at *
  refine wpAnyL_take 0 rfl (by kernel_rfl) (by kernel_rfl) (by kernel_rfl) (by kernel_rfl) (fun _ _ _ h => h) (wanted_none rfl) (by intro w' hS'; have hz := hS'; obtain ⟨-, c0, c1, c2, c3, c4, c5, c6, c7, c8, c9, c10, c11, c12, c13⟩ := HCL.out _ hz; go_simp <;> rfl) hbd ?_
  try simp only [List.getElem_toArray, List.getElem_cons_succ, List.getElem_cons_zero, Act.put, List.setIfInBounds_toArray, List.set_cons_zero, List.set_cons_succ]
  refine wpAnyL_take 1 rfl (by kernel_rfl) (by kernel_rfl) (by kernel_rfl) (by kernel_rfl) (fun _ _ _ h => h) (wanted_none rfl) (by intro w' hS'; have hz := hS'; obtain ⟨-, c0, c1, c2, c3, c4, c5, c6, c7, c8, c9, c10, c11, c12, c13⟩ := HCL.out _ hz; go_simp <;> rfl) hbd ?_
  try simp only [List.getElem_toArray, List.getElem_cons_succ, List.getElem_cons_zero, Act.put, List.setIfInBounds_toArray, List.set_cons_zero, List.set_cons_succ]
  refine wpAnyL_take 2 rfl (by kernel_rfl) (by kernel_rfl) (by kernel_rfl) (by kernel_rfl) (fun _ _ _ h => h) (wanted_none rfl) (by intro w' hS'; have hz := hS'; obtain ⟨-, c0, c1, c2, c3, c4, c5, c6, c7, c8, c9, c10, c11, c12, c13⟩ := HCL.out _ hz; go_simp <;> rfl) hbd ?_
  try simp only [List.getElem_toArray, List.getElem_cons_succ, List.getElem_cons_zero, Act.put, List.setIfInBounds_toArray, List.set_cons_zero, List.set_cons_succ]
  refine wpAnyL_take 3 rfl (by kernel_rfl) (by kernel_rfl) (by kernel_rfl) (by kernel_rfl) (fun _ _ _ h => h) (wanted_none rfl) (by intro w' hS'; have hz := hS'; obtain ⟨-, c0, c1, c2, c3, c4, c5, c6, c7, c8, c9, c10, c11, c12, c13⟩ := HCL.out _ hz; go_simp <;> rfl) hbd ?_
  try simp only [List.getElem_toArray, List.getElem_cons_succ, List.getElem_cons_zero, Act.put, List.setIfInBounds_toArray, List.set_cons_zero, List.set_cons_succ]
  refine wpAnyL_take 5 rfl (by kernel_rfl) (by kernel_rfl) (by kernel_rfl) (by kernel_rfl) (fun _ _ _ h => h) (wanted_none rfl) (by intro w' hS'; have hz := hS'; obtain ⟨-, c0, c1, c2, c3, c4, c5, c6, c7, c8, c9, c10, c11, c12, c13⟩ := HCL.out _ hz; go_simp <;> rfl) hbd ?_
  try simp only [List.getElem_toArray, List.getElem_cons_succ, List.getElem_cons_zero, Act.put, List.setIfInBounds_toArray, List.set_cons_zero, List.set_cons_succ]
  refine wpAnyL_one 4 (by kernel_rfl) rfl (wanted_none rfl) ?_
  intro K' hK'
  go_simp
  go_at_call 103
  refine kv.mono ?_
  rintro e w6 ⟨v6, rfl, hO6, hb6⟩
  have hS6 : (fun W => Below w5.heap.size w5 W) w6 := hbd.trans (hb6.mono hbd.size)
  have ke := eqfP_of pe (.slice pa pn pc) _ v6 E w3.heap.size w6 (HPR.out w6 (hb05.trans (hS6.mono hb05.size))) hO6.1.rd (c1_cell ((hS6.block w3.heap.size (by omega)).trans C5)) hE hpl (by omega)
  obtain ⟨v6a, v6c, rfl, -, -⟩ := hO6.1.rd.shape
  clear kv
  refine hK'.out _ _ (.inr hS6) ?_
  clear hK' K'
  try simp only [List.getElem_toArray, List.getElem_cons_succ, List.getElem_cons_zero, Act.put, List.setIfInBounds_toArray, List.set_cons_zero, List.set_cons_succ]
  refine wpAnyL_one 6 (by kernel_rfl) rfl (wanted_none rfl) ?_
  intro K' hK'
  go_simp
  go_at_call 115
  refine ke.mono ?_
  rintro e w7 ⟨rfl, hb7⟩
  have hS7 : (fun W => Below w5.heap.size w5 W) w7 := hS6.trans (hb7.mono hS6.size)
  clear ke
  refine hK'.out _ _ (.inr hS7) ?_
  clear hK' K'
  try simp only [List.getElem_toArray, List.getElem_cons_succ, List.getElem_cons_zero, Act.put, List.setIfInBounds_toArray, List.set_cons_zero, List.set_cons_succ]
  refine wpAnyL_take 7 rfl (by kernel_rfl) (by kernel_rfl) (by kernel_rfl) (by kernel_rfl) (fun _ _ _ h => h) (wanted_none rfl) (by intro w' hS'; have hz := hS'; obtain ⟨-, c0, c1, c2, c3, c4, c5, c6, c7, c8, c9, c10, c11, c12, c13⟩ := HCL.out _ hz; go_simp <;> rfl) hS7 ?_
  try simp only [List.getElem_toArray, List.getElem_cons_succ, List.getElem_cons_zero, Act.put, List.setIfInBounds_toArray, List.set_cons_zero, List.set_cons_succ]
  refine wpAnyL_done (by kernel_rfl) (NoPanic.normal ?_) _
  go_wp2
  go_ret
  exact ⟨rfl, hb05.trans (hS7.mono hb05.size)⟩
end Go.Proofs.YtncoandnelgkeaaGreat

/- The program's mayBeRole, Check. -/
namespace Go.Proofs.YtncoandnelgkeaaGreat
open Go.RowKit QuorumMath RlogMath RaftMath
set_option maxRecDepth 100000
set_option linter.unusedSimpArgs false
set_option linter.unusedVariables false

theorem eqAll_eq (E : Nat) : ∀ (ps : List Mp) (xs : List Int), eqAll E ps xs = ((ps.all fun p => peerB E p) && decide ((ps.map fun p => p.node) = xs))
  | [], [] => rfl
  | [], _ :: _ => rfl
  | _ :: _, [] => by simp [eqAll]
  | p :: ps, x :: xs => by
    show (eqP E p x && eqAll E ps xs) = _
    rw [eqAll_eq E ps xs]
    unfold eqP
    rw [List.all_cons, List.map_cons]
    unfold peerB
    by_cases h1 : p.node = x
    · by_cases h2 : (ps.map fun p => p.node) = xs
      · simp [h1, h2, Bool.and_assoc]
      · simp [h1, h2]
    · simp [h1]
theorem roleB_lead {r : Mr} (h : r.role = 2) : roleB r = (decide (r.votes = []) && eqAll (endI r) r.peers (votR r)) := by
  unfold roleB
  rw [if_neg (by omega), if_neg (by omega), if_pos h, eqAll_eq]
  generalize (r.peers.all fun p => peerB (endI r) p) = a
  generalize decide (r.votes = []) = b
  generalize decide ((r.peers.map fun p => p.node) = votR r) = c
  cases a <;> cases b <;> cases c <;> rfl
theorem roleB_fol {r : Mr} (h : r.role = 0) : roleB r = (decide (r.votes = []) && decide (r.peers.length = 0)) := by unfold roleB; rw [if_pos h]
theorem roleB_can {r : Mr} (h : r.role = 1) : roleB r = (decide (r.peers.length = 0) && (decide (r.votes = []) || votB r.votes)) := by unfold roleB; rw [if_neg (by omega), if_pos h]
theorem roleB_no {r : Mr} (h0 : r.role ≠ 0) (h1 : r.role ≠ 1) (h2 : r.role ≠ 2) : roleB r = false := by unfold roleB; rw [if_neg h0, if_neg h1, if_neg h2]
theorem nil_len {α : Type} {l : List α} [Decidable (l = [])] : decide (l = []) = decide (l.length = 0) := by
  rw [decide_eq_decide]
  exact List.length_eq_zero_iff.symm
set_option maxHeartbeats 8000000 in
theorem prole_of (n : Nat) (r : Mr) (v : Value) (w : World) (hS : RsV n w v r) (hm : mayB r.base r.log = true) (hbo : OkM r.base) (hlo : ∀ e ∈ r.log, OkM e) (hpl : r.peers.length ≤ 1000000) (hvt : r.votes.length ≤ 1000000) : Calls Tryz.prog 40 #[v] w fun e w' => e = .returned (.bool (roleB r)) ∧ Below w.heap.size w w' := by
  have HK : Hid (∀ W, Below w.heap.size w W → _) := fun W hW => ppeers_of n r v W (hS.below hW) hm hbo hlo hpl
  obtain ⟨z, rfl, hz, hR⟩ := hS
  obtain ⟨r', zs, ⟨ba, bn, bc⟩, ⟨la, ln, lc⟩, ⟨va, vn, vc⟩, ⟨pa, pn, pc⟩⟩ := z
  obtain rfl : r' = r := hz
  obtain ⟨nd, tm, vo, ⟨bi, bt, bk, bd⟩, lg, cm, ro, le, el, vt, pe⟩ := r'
  obtain ⟨B, HB⟩ : ∃ B, Hid (B = roleB ⟨nd, tm, vo, ⟨bi, bt, bk, bd⟩, lg, cm, ro, le, el, vt, pe⟩) := ⟨_, rfl⟩
  rw [← HB.out]
  dsimp only [rv] at *
  obtain ⟨z1, B1, hb1⟩ := one_box w (.cells #[.int .i64 nd, .int .u64 (tm : Int), .int .i64 vo, .int .u64 (bi : Int), .int .u64 (bt : Int), .int .i64 bk, .slice ba bn bc, .slice la ln lc, .int .u64 (cm : Int), .int .i64 ro, .int .i64 le, .int .i64 el, .slice va vn vc, .slice pa pn pc] 32)
  have kc := check_of vt (.slice va vn vc) (w.alloc (.cells #[.int .i64 nd, .int .u64 (tm : Int), .int .i64 vo, .int .u64 (bi : Int), .int .u64 (bt : Int), .int .i64 bk, .slice ba bn bc, .slice la ln lc, .int .u64 (cm : Int), .int .i64 ro, .int .i64 le, .int .i64 el, .slice va vn vc, .slice pa pn pc] 32)) (hR.2.2.2.1.rd.below hb1) (by omega)
  have kp := HK.out _ hb1
  obtain ⟨Q, HQ0⟩ : ∃ Q, Hid (eqAll (endI ⟨nd, tm, vo, ⟨bi, bt, bk, bd⟩, lg, cm, ro, le, el, vt, pe⟩) pe (votR ⟨nd, tm, vo, ⟨bi, bt, bk, bd⟩, lg, cm, ro, le, el, vt, pe⟩) = Q) := ⟨_, rfl⟩
  rw [HQ0.out] at kp
  obtain ⟨pa', pc', hps, -, -⟩ := hR.2.2.2.2.rd.shape
  simp only [slv, Value.slice.injEq] at hps
  obtain ⟨rfl, rfl, rfl⟩ := hps
  obtain ⟨va', vc', hvs, -, -⟩ := hR.2.2.2.1.rd.shape
  simp only [slv, Value.slice.injEq] at hvs
  obtain ⟨rfl, rfl, rfl⟩ := hvs
  have HF : Hid (ro = 0 → B = (decide (vt.length = 0) && decide (pe.length = 0))) := fun h => by rw [HB.out, roleB_fol h, nil_len]
  have HC : Hid (ro = 1 → B = (decide (pe.length = 0) && (decide (vt.length = 0) || votB vt))) := fun h => by rw [HB.out, roleB_can h, nil_len]
  have HN : Hid (ro ≠ 0 → ro ≠ 1 → ro ≠ 2 → B = false) := fun h0 h1 h2 => by rw [HB.out]; exact roleB_no h0 h1 h2
  have HQ : Hid (ro = 2 → B = (decide (vt.length = 0) && Q)) := fun h => by rw [HB.out, roleB_lead h, nil_len, HQ0.out]
  clear hR hm hbo hlo HB HK B1 z1 HQ0
  by_cases r0 : ro = 0
  · have hb := HF.out r0
    subst r0
    clear HF HC HN HQ kp kc
    by_cases v0 : vt.length = 0
    · rw [decide_eq_true v0] at hb
      obtain rfl : vt = [] := List.eq_nil_of_length_eq_zero v0
      dsimp only [List.length_nil] at hb1
      clear v0 hvt
      by_cases p0 : pe.length = 0
      · have HP0 : Hid (pe.length = 0) := p0
        obtain rfl : pe = [] := List.eq_nil_of_length_eq_zero p0
        dsimp only [List.length_nil] at hb1
        have E0 : Hid (B = true) := by show _ = _; rw [hb]; rfl
        clear hb p0 hpl HP0
        go_enter Tryz.func40, Tryz.ntmps40
        go_wp2
        go_ret
        exact ⟨by rw [E0.out]; rfl, hb1⟩
      · have p0i : ((pe.length : Int) == 0) = false := by rw [beq_eq_false_iff_ne]; omega
        have E0 : Hid (B = false) := by show _ = _; rw [hb, decide_eq_false p0]; rfl
        clear hb
        go_enter Tryz.func40, Tryz.ntmps40
        go_wp2
        go_ret
        exact ⟨by rw [E0.out]; rfl, hb1⟩
    · have v0i : ((vt.length : Int) == 0) = false := by rw [beq_eq_false_iff_ne]; omega
      have E0 : Hid (B = false) := by show _ = _; rw [hb, decide_eq_false v0]; rfl
      clear hb
      go_enter Tryz.func40, Tryz.ntmps40
      go_wp2
      go_ret
      exact ⟨by rw [E0.out]; rfl, hb1⟩
  · by_cases r1 : ro = 1
    · have hb := HC.out r1
      subst r1
      clear HF HC HN HQ kp
      by_cases p0 : pe.length = 0
      · rw [decide_eq_true p0] at hb
        obtain rfl : pe = [] := List.eq_nil_of_length_eq_zero p0
        dsimp only [List.length_nil] at hb1 kc
        clear p0 hpl
        by_cases v0 : vt.length = 0
        · have E0 : Hid (B = true) := by show _ = _; rw [hb, decide_eq_true v0]; rfl
          obtain rfl : vt = [] := List.eq_nil_of_length_eq_zero v0
          dsimp only [List.length_nil] at hb1
          clear hb kc v0 hvt
          go_enter Tryz.func40, Tryz.ntmps40
          go_wp2
          go_ret
          exact ⟨by rw [E0.out]; rfl, hb1⟩
        · have v0i : ((vt.length : Int) == 0) = false := by rw [beq_eq_false_iff_ne]; omega
          have E0 : Hid (B = votB vt) := by show _ = _; rw [hb, decide_eq_false v0]; rfl
          generalize votB vt = VB at *
          clear hb
          go_enter Tryz.func40, Tryz.ntmps40
          go_wp2_with fail
          refine kc.mono ?_
          rintro e w1 ⟨rfl, hw1⟩
          rw [hw1]
          clear hw1
          go_wp2
          go_ret
          exact ⟨by rw [E0.out]; rfl, hb1⟩
      · have p0i : ((pe.length : Int) == 0) = false := by rw [beq_eq_false_iff_ne]; omega
        have E0 : Hid (B = false) := by show _ = _; rw [hb, decide_eq_false p0]; rfl
        clear hb kc
        go_enter Tryz.func40, Tryz.ntmps40
        go_wp2
        go_ret
        exact ⟨by rw [E0.out]; rfl, hb1⟩
    · have r0b : (ro == 0) = false := by simpa using r0
      have r1b : (ro == 1) = false := by simpa using r1
      by_cases r2 : ro = 2
      · have hb := HQ.out r2
        subst r2
        clear HF HC HN HQ kc r0b r1b
        by_cases v0 : vt.length = 0
        · have E0 : Hid (B = Q) := by show _ = _; rw [hb, decide_eq_true v0]; rfl
          obtain rfl : vt = [] := List.eq_nil_of_length_eq_zero v0
          dsimp only [List.length_nil] at kp hb1
          clear hb v0 hvt
          go_enter Tryz.func40, Tryz.ntmps40
          go_wp2_with fail
          refine kp.mono ?_
          rintro e w1 ⟨rfl, hb2⟩
          have hb1 := hb1.trans (hb2.mono hb1.size)
          clear hb2 kp
          go_wp2
          go_ret
          exact ⟨by rw [E0.out]; rfl, hb1⟩
        · have v0i : ((vt.length : Int) == 0) = false := by rw [beq_eq_false_iff_ne]; omega
          have E0 : Hid (B = false) := by show _ = _; rw [hb, decide_eq_false v0]; rfl
          clear hb kp
          go_enter Tryz.func40, Tryz.ntmps40
          go_wp2
          go_ret
          exact ⟨by rw [E0.out]; rfl, hb1⟩
      · have r2b : (ro == 2) = false := by simpa using r2
        have E0 : Hid (B = false) := HN.out r0 r1 r2
        clear HF HC HN HQ kc kp
        go_enter Tryz.func40, Tryz.ntmps40
        go_wp2
        go_ret
        exact ⟨by rw [E0.out]; rfl, hb1⟩
end Go.Proofs.YtncoandnelgkeaaGreat

/- The program's Check. -/
namespace Go.Proofs.YtncoandnelgkeaaGreat
open Go.RowKit QuorumMath RlogMath RaftMath
set_option maxRecDepth 100000
set_option linter.unusedSimpArgs false
set_option linter.unusedVariables false

theorem mayR_eq (r : Mr) : mayR r = (numB r && logB r && roleB r) := by
  unfold mayR numB nobB logB
  simp only [Bool.and_assoc]
set_option maxHeartbeats 8000000 in
theorem pcheckR_of (n : Nat) (r : Mr) (v : Value) (w : World) (hS : RsV n w v r) (hbo : OkM r.base) (hlo : ∀ e ∈ r.log, OkM e) (hlg : r.log.length ≤ 1000000) (hpl : r.peers.length ≤ 1000000) (hvt : r.votes.length ≤ 1000000) : Calls Tryz.prog 13 #[v] w fun e w' => e = .returned (.int .i64 (codeB (mayR r))) ∧ Below w.heap.size w w' := by
  have HK1 : Hid (∀ W, Below w.heap.size w W → _) := fun W hW => pnum_of n r v W (hS.below hW)
  have HK2 : Hid (∀ W, Below w.heap.size w W → _) := fun W hW => plog_of n r v W (hS.below hW) hbo hlo hlg
  have HK3 : Hid (logB r = true → ∀ W, Below w.heap.size w W → _) := fun hl W hW => prole_of n r v W (hS.below hW) (by unfold logB at hl; simp only [Bool.and_eq_true] at hl; exact hl.1.1.1) hbo hlo hpl hvt
  obtain ⟨C, HC⟩ : ∃ C, Hid (C = codeB (numB r && logB r && roleB r)) := ⟨_, rfl⟩
  rw [mayR_eq, ← HC.out]
  generalize numB r = b1 at *
  generalize logB r = b2 at *
  generalize roleB r = b3 at *
  obtain ⟨z, rfl, hz, hR⟩ := hS
  obtain ⟨r', zs, ⟨ba, bn, bc⟩, ⟨la, ln, lc⟩, ⟨va, vn, vc⟩, ⟨pa, pn, pc⟩⟩ := z
  obtain rfl : r' = r := hz
  obtain ⟨nd, tm, vo, ⟨bi, bt, bk, bd⟩, lg, cm, ro, le, el, vt, pe⟩ := r'
  dsimp only [rv] at *
  obtain ⟨z1, B1, hb1⟩ := one_box w (.cells #[.int .i64 nd, .int .u64 (tm : Int), .int .i64 vo, .int .u64 (bi : Int), .int .u64 (bt : Int), .int .i64 bk, .slice ba bn bc, .slice la ln lc, .int .u64 (cm : Int), .int .i64 ro, .int .i64 le, .int .i64 el, .slice va vn vc, .slice pa pn pc] 32)
  have k1 := HK1.out _ hb1
  rw [z1] at k1
  clear hR hbo hlo hlg hpl hvt HK1
  go_enter Tryz.func13, Tryz.ntmps13
  go_wp2_with fail
  refine k1.mono ?_
  rintro e w2 ⟨rfl, hb2⟩
  have B2 := (hb2.block w.heap.size (by omega)).trans B1
  have hb02 := hb1.trans (hb2.mono (by omega))
  have hs2 : w.heap.size < w2.heap.size := (Array.getElem?_eq_some_iff.1 B2).1
  have k2 := HK2.out w2 hb02
  obtain ⟨-, o0, o1, o2, o3, o4, o5, o6, o7, o8, o9, o10, o11, o12, o13⟩ := r14_cells B2
  clear k1 HK2 hb2 B1 z1 hb1
  cases b1 with
  | false =>
    have E0 : Hid (C = 1) := by show _ = _; rw [HC.out]; rfl
    clear HC HK3 k2
    go_wp2
    go_ret
    exact ⟨by rw [E0.out]; rfl, hb02⟩
  | true =>
    go_wp2_with fail
    refine k2.mono ?_
    rintro e w3 ⟨rfl, hb3⟩
    have B3 := (hb3.block w.heap.size hs2).trans B2
    have hb03 := hb02.trans (hb3.mono hb02.size)
    clear k2 o0 o1 o2 o3 o4 o5 o6 o7 o8 o9 o10 o11 o12 o13 B2 hb3
    obtain ⟨-, o0, o1, o2, o3, o4, o5, o6, o7, o8, o9, o10, o11, o12, o13⟩ := r14_cells B3
    cases b2 with
    | false =>
      have E0 : Hid (C = 1) := by show _ = _; rw [HC.out]; rfl
      clear HC HK3
      go_wp2
      go_ret
      exact ⟨by rw [E0.out]; rfl, hb03⟩
    | true =>
      have k3 := HK3.out rfl w3 hb03
      clear HK3
      go_wp2_with fail
      refine k3.mono ?_
      rintro e w4 ⟨rfl, hb4⟩
      have hb04 := hb03.trans (hb4.mono hb03.size)
      clear k3 o0 o1 o2 o3 o4 o5 o6 o7 o8 o9 o10 o11 o12 o13 hb4
      cases b3 with
      | false =>
        have E0 : Hid (C = 1) := by show _ = _; rw [HC.out]; rfl
        clear HC
        go_wp2
        go_ret
        exact ⟨by rw [E0.out]; rfl, hb04⟩
      | true =>
        have E0 : Hid (C = 0) := by show _ = _; rw [HC.out]; rfl
        clear HC
        go_wp2
        go_ret
        exact ⟨by rw [E0.out]; rfl, hb04⟩
end Go.Proofs.YtncoandnelgkeaaGreat

