import Derived.Test.YtncoandnelgkeaaGreatHc47
import Derived.Test.YtncoandnelgkeaaGreatHc50
import Derived.Test.YtncoandnelgkeaaGreatHc42
/- The document's Propose, and what the program's tells of a state that may be. -/
namespace Go.Proofs.YtncoandnelgkeaaGreat
open Go.RowKit QuorumMath RlogMath RaftMath
set_option maxRecDepth 100000
set_option linter.unusedSimpArgs false
set_option linter.unusedVariables false

theorem rpropR_of (n : Nat) (r : Mr) (v : Value) (k : Int) (d : List Nat) (ds : Sl) (w : World) (hS : RsV n w v r) (hn : n ≤ w.heap.size) (hD : RdN byteE 5 n w (.slice ds.1 ds.2.1 ds.2.2) d) (hdc : ∀ c ∈ d, c < 256) (hdn : d.length ≤ 1000000) (hm : mayB r.base r.log = true) (htm : r.term < 18446744073709551616) (hbo : OkM r.base) (hlo : ∀ e ∈ r.log, OkM e) (hlg : r.log.length ≤ 1000000) (hpl : r.peers.length ≤ 1000000) (hnx : ∀ p ∈ r.peers, p.next < 18446744073709551616) : Calls Tryz.prog 29 #[v, .int .i64 k, .slice ds.1 ds.2.1 ds.2.2] w fun e w' => PrpT n (propR r k d) e w' ∧ Below w.heap.size w w' := by
  by_cases hk : k = 2
  · exact rprop_k2 n r v k d ds w hS hn hD hdc hdn hm hk htm hbo hlo hlg hpl hnx
  · exact rprop_kn n r v k d ds w hS hn hD hdc hdn hm hk htm hbo hlo hlg hpl hnx
theorem cnt_cons_r (x : Int) (a : List Int) (hx : x ∉ a) : ∀ b : List Int, cnt b (x :: a) = cnt b a + b.countP fun y => decide (y = x)
  | [] => rfl
  | y :: b => by
    rw [cnt_cons, cnt_cons, cnt_cons_r x a hx b, List.countP_cons]
    by_cases h1 : y = x
    · subst h1
      simp [hx]
      omega
    · by_cases h2 : y ∈ a
      · simp [h1, h2]
        omega
      · simp [h1, h2]
theorem count_one (x : Int) : ∀ b : List Int, b.Pairwise (· < ·) → (b.countP fun y => decide (y = x)) = if x ∈ b then 1 else 0
  | [], _ => rfl
  | y :: b, h => by
    rw [List.pairwise_cons] at h
    rw [List.countP_cons, count_one x b h.2]
    by_cases h1 : y = x
    · subst h1
      have : y ∉ b := fun hm => by have := h.1 y hm; omega
      simp [this]
    · have h3 : ¬ x = y := fun e => h1 e.symm
      simp [h1, h3]
theorem cnt_comm : ∀ (a b : List Int), a.Pairwise (· < ·) → b.Pairwise (· < ·) → cnt a b = cnt b a
  | [], b, _, _ => by
    rw [cnt_nil]
    unfold cnt
    simp
  | x :: a, b, ha, hb => by
    rw [List.pairwise_cons] at ha
    have hx : x ∉ a := fun hm => by have := ha.1 x hm; omega
    rw [cnt_cons, cnt_cons_r x a hx b, cnt_comm a b ha.2 hb, count_one x b hb]
theorem safe_far {a b : List Int} (ha : votB a = true) (hb : votB b = true) : safeB a b = false ↔ (1 : Int) < (b.length : Int) + (a.length : Int) - 2 * (cnt b a : Nat) := by
  have h1 : a.Pairwise (· < ·) := (votB_iff.1 ha).2.2.2
  have h2 : b.Pairwise (· < ·) := (votB_iff.1 hb).2.2.2
  unfold safeB
  rw [ha, hb, cnt_comm a b h1 h2]
  simp only [Bool.and_self, Bool.true_and, decide_eq_false_iff_not]
  omega
theorem propP_eq {r : Mr} {k : Int} {d : List Nat} (h : mayR r = true) : propP r k d = propR r k d := by
  have hm := (mayR_facts h).1
  have hv : votB (votR r) = true := may_vot hm
  have h0 : ¬ mayR r = false := by rw [h]; decide
  have hmust : mustB r = true ↔ ((termM r.base r.log r.commit).getD 0 ≠ r.term ∨ ∃ e ∈ r.log, e.kind = 2 ∧ r.commit < e.idx) := by
    unfold mustB
    simp
  have hvn : ¬ (k = 0 ∨ (appM r.base r.log r.term k d).1 = 1) → k = 2 → votB (nodesI d) = true := fun h1 h2 => by
    have : entB ⟨(lastM r.base r.log).1 + 1, r.term, k, d⟩ = true := by
      cases he : entB ⟨(lastM r.base r.log).1 + 1, r.term, k, d⟩ with
      | true => rfl
      | false =>
        exfalso
        apply h1
        right
        unfold appM
        rw [he, Bool.and_false]
        rfl
    unfold entB at this
    simp only [Bool.and_eq_true] at this
    have h5 := this.2
    (try dsimp only at h5)
    rw [decide_eq_true h2] at h5
    simpa using h5
  unfold propP propR
  by_cases h2 : r.role = 2
  · rw [if_pos h2]
    have h2' : ¬ r.role ≠ 2 := fun hh => hh h2
    by_cases h1 : k = 0 ∨ (appM r.base r.log r.term k d).1 = 1
    · have e : propdM r k d = (1, zeroMe, []) := by unfold propdM; rw [if_neg h0, if_neg h2', if_pos h1]
      rw [e]
      dsimp only
      rw [if_neg (by decide), if_pos h1.symm]
    · have h1' : ¬ ((appM r.base r.log r.term k d).1 = 1 ∨ k = 0) := fun hh => h1 hh.symm
      by_cases h3 : k = 2 ∧ mustB r = true
      · have e : propdM r k d = (9, zeroMe, []) := by unfold propdM; rw [if_neg h0, if_neg h2', if_neg h1, if_pos h3]
        rw [e]
        dsimp only
        rw [if_neg (by decide), if_neg h1', if_pos ⟨h3.1, hmust.1 h3.2⟩]
      · have h3' : ¬ (k = 2 ∧ ((termM r.base r.log r.commit).getD 0 ≠ r.term ∨ ∃ e ∈ r.log, e.kind = 2 ∧ r.commit < e.idx)) := fun hh => h3 ⟨hh.1, hmust.2 hh.2⟩
        by_cases h4 : k = 2 ∧ safeB (votR r) (nodesI d) = false
        · have e : propdM r k d = (1, zeroMe, []) := by unfold propdM; rw [if_neg h0, if_neg h2', if_neg h1, if_neg h3, if_pos h4]
          rw [e]
          dsimp only
          rw [if_neg (by decide), if_neg h1', if_neg h3', if_pos ⟨h4.1, (safe_far hv (hvn h1 h4.1)).1 h4.2⟩]
        · have h4' : ¬ (k = 2 ∧ (1 : Int) < ((nodesI d).length : Int) + ((votR r).length : Int) - 2 * (cnt (nodesI d) (votR r) : Nat)) := fun hh => h4 ⟨hh.1, (safe_far hv (hvn h1 hh.1)).2 hh.2⟩
          have e : propdM r k d = appM r.base r.log r.term k d := by unfold propdM; rw [if_neg h0, if_neg h2', if_neg h1, if_neg h3, if_neg h4]
          rw [e]
          dsimp only
          rw [if_neg h1', if_neg h3', if_neg h4']
  · have e : propdM r k d = (4, zeroMe, []) := by unfold propdM; rw [if_neg h0, if_pos h2]
    rw [e, if_neg h2]
    rfl
/-- Of a state that may not be. -/
theorem propP_no {r : Mr} {k : Int} {d : List Nat} (h : mayR r = false) : propP r k d = (⟨zeroR, []⟩, 0, 1) := by
  have e : propdM r k d = (1, zeroMe, []) := by unfold propdM; rw [if_pos h]
  unfold propP
  rw [e]
  rfl
end Go.Proofs.YtncoandnelgkeaaGreat

/- The law RaftProposes. -/
namespace Go.Proofs.YtncoandnelgkeaaGreat
open Go.RowKit QuorumMath RlogMath RaftMath
set_option maxRecDepth 100000
set_option linter.unusedSimpArgs false
set_option linter.unusedVariables false

theorem ok_zero (L M : Nat) : OkB L M ⟨zeroR, []⟩ := ⟨zero_okM, by simp [zeroR], by simp [zeroR], by simp, by simp, by simp [zeroR], by simp [zeroR]⟩
theorem ok_prop {r : Mr} {k : Int} {d : List Nat} (hbo : OkM r.base) (hlo : ∀ e ∈ r.log, OkM e) (hlg : r.log.length ≤ 200) (hpl : r.peers.length ≤ 1000000000) (hvt : r.votes.length ≤ 1000000000) (htm : r.term < 18446744073709551616) (hdc : ∀ c ∈ d, c < 256) (hdn : d.length ≤ 1000000000) : OkB (0 + 1000000000) 201 (propR r k d).1 := by
  have ha := app_okM (t := r.term) (k := k) (d := d) hbo hlo htm hdc hdn
  unfold propR
  dsimp only
  repeat' split
  all_goals first
    | exact ok_zero _ _
    | exact ok_settle ⟨ha.1, ha.2.1, by have := ha.2.2; show _ ≤ _; dsimp only; omega, by simp, by simp, hpl, hvt⟩
theorem ok_comp {r : Mr} {x : Nat} (hbo : OkM r.base) (hlo : ∀ e ∈ r.log, OkM e) (hlg : r.log.length ≤ 200) (hpl : r.peers.length ≤ 1000000000) (hvt : r.votes.length ≤ 1000000000) (hx : x < 18446744073709551616) : OkB 0 200 ⟨(compR r x).1, []⟩ := by
  have ha := comp_okM (x := x) hbo hlo hx
  unfold compR
  split
  · exact ok_zero _ _
  · exact ⟨ha.1, ha.2.1, by have := ha.2.2; show _ ≤ _; dsimp only; omega, by simp, by simp, hpl, hvt⟩
set_option maxHeartbeats 32000000 in
theorem proposes_law (r : Mr) (v : Value) (b : Ez) (w : World) (hS : RsV w.heap.size w v r) (hbo : OkM r.base) (hlo : ∀ e ∈ r.log, OkM e) (hlg : r.log.length ≤ 1000000000) (hnx : ∀ p ∈ r.peers, p.next < 18446744073709551616 ∧ p.mat < 18446744073709551616) (hD : DataV w b) (hE : EzOk b) (hdl : b.1.data.length ≤ 1000000000) : Calls Tryz.prog 6 #[v, ev b] w fun e w' => e = .returned (.bool true) ∧ Below w.heap.size w w' := by
  have ka := fun W => awake_of W
  obtain ⟨z, rfl, hz, hR⟩ := hS
  have HR : Hid (∀ W, Below w.heap.size w W → RsV w.heap.size W (rv z) r) := fun W hW => ⟨z, rfl, hz, hR.below hW⟩
  clear hR hz
  have hln := hD.len
  have HDD : Hid (∀ W, Below w.heap.size w W → DataN w.heap.size W b) := fun W hW => hD.toN.below hW
  have HDV : Hid (∀ W, Below w.heap.size w W → DataV W b) := fun W hW => hD.below hW
  obtain ⟨⟨ix, tx, kx, dx⟩, xa, xn, xc⟩ := b
  dsimp only [ev] at *
  have HLN : Hid (xn = dx.length) := hln
  clear hln
  obtain ⟨z1, B1, X1, hb1⟩ := two_box w (rc z) (.cells #[.int .u64 (ix : Int), .int .u64 (tx : Int), .int .i64 kx, .slice xa xn xc] 25)
  have k1 := light_of w.heap.size r (rv z) _ (HR.out _ hb1) hlo (by omega)
  dsimp only [rv, rc] at B1 X1 hb1 k1 z1 ⊢
  clear hD
  go_enter Tryz.func6, Tryz.ntmps6
  go_wp2_with (refine wpList_load_row rfl 32 _ rfl (w.heap.size) rfl _ _ _ _ B1 Tryz.underlying32 rfl (by kernel_rfl) ?_)
  refine k1.mono ?_
  rintro e w2 ⟨⟨B, rfl, hB⟩, hb2⟩
  have B2 := (hb2.block (w.heap.size) (by omega)).trans B1
  have X2 := (hb2.block (w.heap.size + 1) (by omega)).trans X1
  have hb02 := hb1.trans (hb2.mono (by omega))
  clear k1 hb2 B1 X1 hb1 z1
  obtain ⟨-, x0, x1, x2, x3⟩ := en_cells X2
  cases B with
  | false =>
    clear hB
    go_wp2_with fail
    refine (ka _).mono ?_
    rintro e w3 ⟨rfl, hb3⟩
    have hb03 := hb02.trans (hb3.mono hb02.size)
    go_wp2
    go_ret
    exact ⟨rfl, hb03⟩
  | true =>
    obtain ⟨hl1, hl2, hl3⟩ := hB rfl
    clear hB
    by_cases h5 : 5000 < xn
    · have h5i : (5000 : Int) < (xn : Int) := by omega
      clear h5
      go_wp2_with fail
      refine (ka _).mono ?_
      rintro e w3 ⟨rfl, hb3⟩
      have hb03 := hb02.trans (hb3.mono hb02.size)
      go_wp2
      go_ret
      exact ⟨rfl, hb03⟩
    · have h5i : ¬ (5000 : Int) < (xn : Int) := by omega
      have hdn : dx.length ≤ 5000 := by have := HLN.out; omega
      have k2 := prop_of w.heap.size r (rv z) kx dx (xa, xn, xc) w2 (HR.out _ hb02) (HDV.out _ hb02) hE.2.2 (by omega) hbo hlo (by omega) (by omega) (by omega) (fun p hp => (hnx p hp).1)
      have HKC : Hid (∀ W, Below w.heap.size w W → _) := fun W hW => pcompR_of w.heap.size r (rv z) ix W (HR.out W hW) hbo hlo (by omega) (by omega) (by omega)
      have HKM : Hid (∀ W, Below w.heap.size w W → _) := fun W hW => rmay_of w.heap.size r (rv z) W (HR.out W hW) hbo hlo (by omega) (by omega) (by omega) (votR_len hbo hlo) hnx
      have HKP : Hid (mayR r = true → ∀ W, Below w.heap.size w W → _) := fun hm W hW => rpropR_of w.heap.size r (rv z) kx dx (xa, xn, xc) W (HR.out W hW) hW.size (HDD.out W hW) hE.2.2 (by omega) (mayR_facts hm).1 (by have := (mayR_more hm).1; omega) hbo hlo (by omega) (by omega) (fun p hp => (hnx p hp).1)
      have HKD : Hid (∀ W, Below w.heap.size w W → _) := fun W hW => rcompR_of w.heap.size r (rv z) ix W (HR.out W hW) hW.size hbo hlo (by omega)
      have HOP : Hid (mayR r = true → OkB (0 + 1000000000) 201 (propR r kx dx).1) := fun hm => ok_prop hbo hlo hl1 (by omega) (by omega) (by have := (mayR_more hm).1; omega) hE.2.2 (by omega)
      have HOC : Hid (OkB 0 200 ⟨(compR r ix).1, []⟩) := ok_comp hbo hlo hl1 (by omega) (by omega) hE.1
      have HPE : Hid (mayR r = true → propP r kx dx = propR r kx dx) := propP_eq
      have HPN : Hid (mayR r = false → propP r kx dx = (⟨zeroR, []⟩, 0, 1)) := propP_no
      have HCE : Hid (mayR r = true → compP r ix = compR r ix) := fun h => by unfold compP; rw [if_pos h]
      have HCN : Hid (mayR r = false → compP r ix = (zeroR, 1)) := fun h => by unfold compP; rw [if_neg (by rw [h]; decide)]
      obtain ⟨MB, HMB⟩ : ∃ MB, Hid (mayR r = MB) := ⟨_, rfl⟩
      generalize propP r kx dx = PP at *
      generalize propR r kx dx = PR at *
      generalize compP r ix = CP at *
      generalize compR r ix = CR at *
      dsimp only [rv] at k2 HKC HKM HKP HKD
      clear hbo hlo hnx hl1 hl2 hl3 hlg HR HDD HDV hE hdl h5 hdn HLN
      go_wp2_with (refine wpList_load_row rfl 32 _ rfl (w.heap.size) rfl _ _ _ _ B2 Tryz.underlying32 rfl (by kernel_rfl) ?_)
      refine k2.mono ?_
      rintro e w3 ⟨⟨x, gs, os, rfl, hX, hM, hxr, hgo⟩, hb3⟩
      have B3 := (hb3.block (w.heap.size) (Array.getElem?_eq_some_iff.1 B2).1).trans B2
      have X3 := (hb3.block (w.heap.size + 1) (Array.getElem?_eq_some_iff.1 X2).1).trans X2
      have hb03 := hb02.trans (hb3.mono hb02.size)
      have HX : Hid (RaV w.heap.size w3 x) := hX
      have HM : Hid (MgsV w.heap.size w3 (.slice os.1 os.2.1 os.2.2) gs) := hM
      have HXR : Hid (x.r = PP.1.r) := hxr
      have HGO : Hid ((gs.map fun g => g.m) = PP.1.out) := hgo
      clear k2 hb3 B2 X2 hb02 hX hM hxr hgo x0 x1 x2 x3
      obtain ⟨z4, A4, q4⟩ := one_box w3 (rc x)
      have B4 := (q4.block (w.heap.size) (Array.getElem?_eq_some_iff.1 B3).1).trans B3
      have X4 := (q4.block (w.heap.size + 1) (Array.getElem?_eq_some_iff.1 X3).1).trans X3
      have hb04 := hb03.trans (q4.mono hb03.size)
      have k3 := HKC.out _ hb04
      obtain ⟨-, x0, x1, x2, x3⟩ := en_cells X4
      dsimp only [rv, rc] at A4 B4 X4 q4 z4 hb04 k3 x0 x1 x2 x3 ⊢
      clear HKC B3 X3
      go_wp2_with (refine wpList_load_row rfl 32 _ rfl (w.heap.size) rfl _ _ _ _ B4 Tryz.underlying32 rfl (by kernel_rfl) ?_)
      refine k3.mono ?_
      rintro e w5 ⟨⟨y, rfl, hY, hyr⟩, hb5⟩
      have hb05 := hb04.trans (hb5.mono hb04.size)
      have B5 := (hb5.block (w.heap.size) (Array.getElem?_eq_some_iff.1 B4).1).trans B4
      have X5 := (hb5.block (w.heap.size + 1) (Array.getElem?_eq_some_iff.1 X4).1).trans X4
      have A5 := (hb5.block w3.heap.size (by omega)).trans A4
      have hw35 : Below w3.heap.size w3 w5 := q4.trans (hb5.mono (by omega))
      have HY : Hid (RaV w.heap.size w5 y) := hY
      have HYR : Hid (y.r = CP.1) := hyr
      clear k3 B4 X4 A4 z4 hb5 hb04 q4 hb03 hY hyr x0 x1 x2 x3
      obtain ⟨z6, C6, q6⟩ := one_box w5 (rc y)
      have B6 := (q6.block (w.heap.size) (Array.getElem?_eq_some_iff.1 B5).1).trans B5
      have X6 := (q6.block (w.heap.size + 1) (Array.getElem?_eq_some_iff.1 X5).1).trans X5
      have A6 := (q6.block w3.heap.size (Array.getElem?_eq_some_iff.1 A5).1).trans A5
      have hb06 := hb05.trans (q6.mono hb05.size)
      have hw36 := hw35.trans (q6.mono hw35.size)
      have k4 := HKM.out _ hb06
      dsimp only [rv, rc] at A6 B6 C6 X6 q6 z6 hb06 hw36 k4 ⊢
      clear HKM B5 X5 A5 hw35
      go_wp2_with (refine wpList_load_row rfl 32 _ rfl (w.heap.size) rfl _ _ _ _ B6 Tryz.underlying32 rfl (by kernel_rfl) ?_)
      refine k4.mono ?_
      rintro e w7 ⟨rfl, hb7⟩
      have hb07 := hb06.trans (hb7.mono hb06.size)
      have B7 := (hb7.block (w.heap.size) (Array.getElem?_eq_some_iff.1 B6).1).trans B6
      have X7 := (hb7.block (w.heap.size + 1) (Array.getElem?_eq_some_iff.1 X6).1).trans X6
      have A7 := (hb7.block w3.heap.size (Array.getElem?_eq_some_iff.1 A6).1).trans A6
      have C7 := (hb7.block w5.heap.size (by omega)).trans C6
      have hw37 := hw36.trans (hb7.mono hw36.size)
      have hw57 : Below w5.heap.size w5 w7 := q6.trans (hb7.mono (by omega))
      clear k4 B6 X6 A6 C6 z6 hb7 hb06 q6 hb05 hw36
      rw [HMB.out]
      cases MB with
      | false =>
        have hp := HPN.out HMB.out
        have hc := HCN.out HMB.out
        have hg0 : gs = [] := by have h := HGO.out; rw [hp] at h; simpa using h
        have hos : os.2.1 = 0 := by rw [slv_len HM.out.1, hg0]; rfl
        subst hp hc
        clear HX HM HXR HGO HY HYR HKP HKD HOP HOC HPE HPN HCE HCN hg0 B7 X7 A7 C7
        dsimp only
        rw [hos]
        clear hos
        go_wp2_with fail
        refine (ka _).mono ?_
        rintro e w8 ⟨rfl, hb8⟩
        have hb08 := hb07.trans (hb8.mono hb07.size)
        go_wp2
        go_ret
        exact ⟨rfl, hb08⟩
      | true =>
        have hp := HPE.out HMB.out
        have hc := HCE.out HMB.out
        subst hp hc
        have hok := HOP.out HMB.out
        have hokc := HOC.out
        have k5 := HKP.out HMB.out w7 hb07
        obtain ⟨-, x0, x1, x2, x3⟩ := en_cells X7
        clear HPE HPN HCE HCN HKP HOP HOC
        obtain ⟨⟨PPr, PPo⟩, pi, pe⟩ := PP
        obtain ⟨CPr, ce⟩ := CP
        dsimp only at *
        go_wp2_with (refine wpList_load_row rfl 32 _ rfl (w.heap.size) rfl _ _ _ _ B7 Tryz.underlying32 rfl (by kernel_rfl) ?_)
        refine k5.mono ?_
        rintro e w8 ⟨⟨v8, rfl, hSt⟩, hb8⟩
        obtain ⟨s, hs, ot, rfl, hsr, hSR, hSM, hso⟩ := hSt
        have B8 := (hb8.block (w.heap.size) (Array.getElem?_eq_some_iff.1 B7).1).trans B7
        have X8 := (hb8.block (w.heap.size + 1) (Array.getElem?_eq_some_iff.1 X7).1).trans X7
        have A8 := (hb8.block w3.heap.size (Array.getElem?_eq_some_iff.1 A7).1).trans A7
        have C8 := (hb8.block w5.heap.size (Array.getElem?_eq_some_iff.1 C7).1).trans C7
        have hb08 := hb07.trans (hb8.mono hb07.size)
        have hw38 := hw37.trans (hb8.mono hw37.size)
        have hw58 := hw57.trans (hb8.mono hw57.size)
        have HSR : Hid (RaV w.heap.size w8 s) := hSR
        have HSM : Hid (MgsV w.heap.size w8 (slv ot) hs) := hSM
        have HSE : Hid (s.r = PPr) := hsr
        have HSO : Hid ((hs.map fun g => g.m) = PPo) := hso
        clear k5 hb8 B7 X7 A7 C7 hb07 hw37 hw57 hsr hSR hSM hso x0 x1 x2 x3
        obtain ⟨z9, S9, q9⟩ := one_box w8 (sc s ot)
        have B9 := (q9.block (w.heap.size) (Array.getElem?_eq_some_iff.1 B8).1).trans B8
        have X9 := (q9.block (w.heap.size + 1) (Array.getElem?_eq_some_iff.1 X8).1).trans X8
        have A9 := (q9.block w3.heap.size (Array.getElem?_eq_some_iff.1 A8).1).trans A8
        have C9 := (q9.block w5.heap.size (Array.getElem?_eq_some_iff.1 C8).1).trans C8
        have hb09 := hb08.trans (q9.mono hb08.size)
        have hw39 := hw38.trans (q9.mono hw38.size)
        have hw59 := hw58.trans (q9.mono hw58.size)
        have k6 := HKD.out _ hb09
        obtain ⟨-, x0, x1, x2, x3⟩ := en_cells X9
        dsimp only [rv, rc, sv, sc, slv] at A9 B9 C9 X9 S9 q9 z9 hb09 hw39 hw59 k6 x0 x1 x2 x3 ⊢
        clear HKD B8 X8 A8 C8 hw38 hw58
        go_wp2_with (refine wpList_load_row rfl 32 _ rfl (w.heap.size) rfl _ _ _ _ B9 Tryz.underlying32 rfl (by kernel_rfl) ?_)
        refine k6.mono ?_
        rintro e w10 ⟨⟨u, rfl, hU, hur⟩, hb10⟩
        have A10 := (hb10.block w3.heap.size (Array.getElem?_eq_some_iff.1 A9).1).trans A9
        have C10 := (hb10.block w5.heap.size (Array.getElem?_eq_some_iff.1 C9).1).trans C9
        have S10 := (hb10.block w8.heap.size (by omega)).trans S9
        have hb010 := hb09.trans (hb10.mono hb09.size)
        have hw310 := hw39.trans (hb10.mono hw39.size)
        have hw510 := hw59.trans (hb10.mono hw59.size)
        have hw810 : Below w8.heap.size w8 w10 := q9.trans (hb10.mono (by omega))
        clear k6 hb10 B9 X9 A9 C9 S9 q9 z9 hb09 hw39 hw59 x0 x1 x2 x3 hb08
        obtain ⟨z11, D11, q11⟩ := one_box w10 (rc u)
        have A11 := (q11.block w3.heap.size (Array.getElem?_eq_some_iff.1 A10).1).trans A10
        have C11 := (q11.block w5.heap.size (Array.getElem?_eq_some_iff.1 C10).1).trans C10
        have S11 := (q11.block w8.heap.size (Array.getElem?_eq_some_iff.1 S10).1).trans S10
        have hb011 := hb010.trans (q11.mono hb010.size)
        have hw311 := hw310.trans (q11.mono hw310.size)
        have hw511 := hw510.trans (q11.mono hw510.size)
        have hw811 := hw810.trans (q11.mono hw810.size)
        have k7 := rsame_of w.heap.size w.heap.size CPr (rv y) (rv u) _ ⟨y, rfl, HYR.out, HY.out.below hw511⟩ ⟨u, rfl, hur, hU.below q11⟩ hokc.base hokc.log (by have := hokc.ln; dsimp only at *; omega) hokc.pn hokc.vn
        have HK8 : Hid (∀ W, Below w3.heap.size w3 W → Below w8.heap.size w8 W → _) := fun W h1 h2 => rsame_of w.heap.size w.heap.size PPr (rv x) (rv s) W ⟨x, rfl, HXR.out, HX.out.below h1⟩ ⟨s, rfl, HSE.out, HSR.out.below h2⟩ hok.base hok.log (by have := hok.ln; dsimp only at *; omega) hok.pn hok.vn
        have HK9 : Hid (∀ W, Below w3.heap.size w3 W → Below w8.heap.size w8 W → _) := fun W h1 h2 => sameGs_of w.heap.size w.heap.size gs hs (.slice os.1 os.2.1 os.2.2) (slv ot) W (HM.out.below h1) (HSM.out.below h2) (HGO.out.trans HSO.out.symm) (fun g hg => hok.out g.m (by rw [← HGO.out]; exact List.mem_map.2 ⟨g, hg, rfl⟩)) (by have := hok.on; have h9 := congrArg List.length HGO.out; rw [List.length_map] at h9; dsimp only at *; omega)
        dsimp only [rv, rc, slv] at A11 C11 S11 D11 q11 z11 hb011 hw311 hw511 hw811 k7 HK8 HK9 ⊢
        have HOK : Hid _ := hok
        clear hok hokc A10 C10 S10 hw310 hw510 hw810 hU hur HX HM HXR HGO HY HYR HSR HSM HSE HSO hb010
        obtain ⟨-, o0, o1, o2, o3, o4, o5, o6, o7, o8, o9, o10, o11, o12, o13⟩ := r14_cells C11
        obtain ⟨-, t0, t1, t2, t3, t4, t5, t6, t7, t8, t9, t10, t11, t12, t13⟩ := r14_cells D11
        go_wp2_with fail
        refine k7.mono ?_
        rintro e w12 ⟨rfl, hb12⟩
        have A12 := (hb12.block w3.heap.size (Array.getElem?_eq_some_iff.1 A11).1).trans A11
        have S12 := (hb12.block w8.heap.size (Array.getElem?_eq_some_iff.1 S11).1).trans S11
        have hb012 := hb011.trans (hb12.mono hb011.size)
        have hw312 := hw311.trans (hb12.mono hw311.size)
        have hw812 := hw811.trans (hb12.mono hw811.size)
        have k8 := HK8.out w12 hw312 hw812
        clear o0 o1 o2 o3 o4 o5 o6 o7 o8 o9 o10 o11 o12 o13 t0 t1 t2 t3 t4 t5 t6 t7 t8 t9 t10 t11 t12 t13
        clear k7 hb12 A11 C11 S11 D11 q11 z11 hb011 hw311 hw511 hw811 HK8
        obtain ⟨-, p0, p1, p2, p3, p4, p5, p6, p7, p8, p9, p10, p11, p12, p13, p14⟩ := r15_cells S12
        obtain ⟨-, o0, o1, o2, o3, o4, o5, o6, o7, o8, o9, o10, o11, o12, o13⟩ := r14_cells A12
        go_wp2_with fail
        refine k8.mono ?_
        rintro e w13 ⟨rfl, hb13⟩
        have S13 := (hb13.block w8.heap.size (Array.getElem?_eq_some_iff.1 S12).1).trans S12
        have hb013 := hb012.trans (hb13.mono hb012.size)
        have k9 := HK9.out w13 (hw312.trans (hb13.mono hw312.size)) (hw812.trans (hb13.mono hw812.size))
        clear o0 o1 o2 o3 o4 o5 o6 o7 o8 o9 o10 o11 o12 o13
        clear k8 p0 p1 p2 p3 p4 p5 p6 p7 p8 p9 p10 p11 p12 p13 p14 S12 A12 hb012 hw312 hw812 HK9 hb13
        obtain ⟨-, p0, p1, p2, p3, p4, p5, p6, p7, p8, p9, p10, p11, p12, p13, p14⟩ := r15_cells S13
        go_wp2_with fail
        refine k9.mono ?_
        rintro e w14 ⟨rfl, hb14⟩
        have hb014 := hb013.trans (hb14.mono hb013.size)
        clear k9 hb14 hb013 p0 p1 p2 p3 p4 p5 p6 p7 p8 p9 p10 p11 p12 p13 p14 S13
        go_wp2_with fail
        refine (ka _).mono ?_
        rintro e w15 ⟨rfl, hb15⟩
        have hbz := hb014.trans (hb15.mono hb014.size)
        go_wp2
        go_ret
        exact ⟨rfl, hbz⟩
end Go.Proofs.YtncoandnelgkeaaGreat

