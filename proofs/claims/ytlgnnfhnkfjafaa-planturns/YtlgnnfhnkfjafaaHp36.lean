import Derived.Test.YtlgnnfhnkfjafaaHp35
/- unplanned, Split, Merge of plan. -/
namespace Go.Proofs.Ytlgnnfhnkfjafaa
open Go.RowKit SpanMath ChartMath PlanMath
set_option maxRecDepth 100000
set_option linter.unusedSimpArgs false
set_option linter.unusedVariables false

theorem rg_nil (w : World) : Rd rgE w (.slice none 0 0) [] := ⟨none, 0, rfl, by simp, fun _ => rfl, fun i x j u hx => by simp at hx⟩
/-- What is left of a turn, if no plan was met. -/
def metM (m : List Rg × Int) (ps : List Pl) : List Rg × Int := if m.2 ≠ 0 then ([], m.2) else if planB m.1 ps = true then (m.1, 0) else ([], 9)
def splitQ (l : List Rg) (ps : List Pl) (k : K) : List Rg × Int := if planB l ps = true then metM (splitM l k) ps else ([], 1)
def mergeQ (l : List Rg) (ps : List Pl) (k : K) : List Rg × Int := if planB l ps = true then metM (mergeM l k) ps else ([], 1)
set_option maxHeartbeats 4000000 in
theorem unplanned_of (t : List Rg) (ps : List Pl) (tv v : Value) (w : World) (hT : Rd rgE w tv t) (hP : Rd plE w v ps) (hlen : t.length ≤ 1000000) (hpl : ps.length ≤ 1000000) : Calls Try.prog 31 #[tv, v] w fun e w' => TurnT (if planB t ps = true then (t, 0) else ([], 9)) e w' ∧ Below w.heap.size w w' := by
  have k1 := plcheck_of t ps tv v w hT.cv hP hlen hpl
  have HT : Hid (Rd rgE w tv t) := hT
  obtain ⟨ao, cap, rfl, -⟩ := id hT
  obtain ⟨po, pcap, rfl, -⟩ := id hP
  clear hT hP
  cases hB : planB t ps with
  | false =>
    rw [hB] at k1
    simp only [Bool.false_eq_true, if_false] at k1 ⊢
    clear hB HT
    go_enter Try.func31, Try.ntmps31
    go_wp2_with fail
    refine k1.mono ?_
    rintro e w1 ⟨rfl, hb1⟩
    go_wp2
    go_ret2
    exact ⟨⟨_, rfl, rg_nil _⟩, hb1⟩
  | true =>
    rw [hB] at k1
    simp only [if_true] at k1 ⊢
    clear hB
    go_enter Try.func31, Try.ntmps31
    go_wp2_with fail
    refine k1.mono ?_
    rintro e w1 ⟨rfl, hb1⟩
    have hr : Hid (Rd rgE w1 (.slice ao t.length cap) t) := Rd.below HT.out hb1
    go_wp2
    go_ret2
    exact ⟨⟨_, rfl, hr.out⟩, hb1⟩
set_option maxHeartbeats 4000000 in
theorem psplit_of (l : List Rg) (ps : List Pl) (lv v : Value) (k : K) (w : World) (hF : Rd rgE w lv l) (hP : Rd plE w v ps) (hlen : l.length ≤ 1000000) (hpl : ps.length ≤ 1000000) : Calls Try.prog 15 #[lv, v, .string (bk k)] w fun e w' => TurnT (splitQ l ps k) e w' ∧ Below w.heap.size w w' := by
  obtain ⟨T, HT⟩ : ∃ T, Hid (T = TurnT (splitQ l ps k)) := ⟨_, rfl⟩
  rw [← HT.out]
  have k1 := plcheck_of l ps lv v w hF.cv hP hlen hpl
  have ks : Hid (∀ W, Below w.heap.size w W → _) := fun W hW => csplit_of l lv k W (hF.below hW)
  have ku : Hid (∀ (t : List Rg) (tv : Value) W, Rd rgE W tv t → Below w.heap.size w W → t.length ≤ 1000000 → _) := fun t tv W hT hW hl => unplanned_of t ps tv v W hT (hP.below hW) hl hpl
  have hml : Hid ((splitM l k).2 = 0 → (splitM l k).1.length ≤ 64) := fun h => by
    have := (split_ok (l := l) (t := k) (k := (splitM l k).1) (by rw [← h])).1
    exact this.len
  obtain ⟨ao, cap, rfl, -⟩ := id hF
  obtain ⟨po, pcap, rfl, -⟩ := id hP
  unfold splitQ at HT
  clear hF hP
  cases hB : planB l ps with
  | false =>
    rw [hB] at k1 HT
    simp only [Bool.false_eq_true, if_false] at k1
    have E : Hid (T = TurnT ([], 1)) := by show _ = _; rw [HT.out]; rfl
    clear HT hB ks ku hml
    go_enter Try.func15, Try.ntmps15
    go_wp2_with fail
    refine k1.mono ?_
    rintro e w1 ⟨rfl, hb1⟩
    go_wp2
    go_ret2
    exact ⟨by rw [E.out]; exact ⟨_, rfl, rg_nil _⟩, hb1⟩
  | true =>
    rw [hB] at k1 HT
    simp only [if_true] at k1
    replace HT : Hid (T = TurnT (metM (splitM l k) ps)) := by show _ = _; rw [HT.out]; rfl
    unfold TurnT at ks
    generalize splitM l k = M at *
    obtain ⟨m, c⟩ := M
    dsimp only at ks hml
    unfold metM at HT
    dsimp only at HT
    clear hB
    by_cases hc : c = 0
    · have hcd : (c != 0) = false := by simp [hc]
      rw [if_neg (by simp [hc])] at HT
      have hl := hml.out hc
      subst hc
      clear hml
      go_enter Try.func15, Try.ntmps15
      go_wp2_with fail
      refine k1.mono ?_
      rintro e w1 ⟨rfl, hb1⟩
      have k2 := ks.out w1 hb1
      go_wp2_with fail
      refine k2.mono ?_
      rintro e w2 ⟨⟨tv, rfl, hr⟩, hbc⟩
      obtain ⟨ta, tc, rfl, -⟩ := id hr
      have hb2 := hb1.trans (hbc.mono hb1.size)
      have hrH : Hid (Rd rgE w2 (.slice ta m.length tc) m) := hr
      clear k2 hbc hr
      have k3 := ku.out m _ w2 hrH.out hb2 (by omega)
      clear ks ku
      go_wp2_with fail
      refine k3.mono ?_
      rintro e w3 ⟨⟨rv_, rfl, hr3⟩, hbc⟩
      have hb3 : Hid (Below w.heap.size w w3) := hb2.trans (hbc.mono hb2.size)
      have hr3H : Hid (Rd rgE w3 rv_ (if planB m ps = true then (m, (0 : Int)) else ([], 9)).1) := hr3
      clear k3 hbc hr3 hrH hb2
      generalize (if planB m ps = true then (m, (0 : Int)) else ([], 9)) = Q at *
      obtain ⟨q1, q2⟩ := Q
      dsimp only at hr3H
      obtain ⟨ra, rcap, hrv, -⟩ := id hr3H.out
      subst hrv
      go_wp2
      go_ret2
      exact ⟨by rw [HT.out]; exact ⟨_, rfl, hr3H.out⟩, hb3.out⟩
    · have hcd : (c != 0) = true := by simpa using hc
      rw [if_pos hc] at HT
      clear hml ku hc
      go_enter Try.func15, Try.ntmps15
      go_wp2_with fail
      refine k1.mono ?_
      rintro e w1 ⟨rfl, hb1⟩
      have k2 := ks.out w1 hb1
      go_wp2_with fail
      refine k2.mono ?_
      rintro e w2 ⟨⟨tv, rfl, hr⟩, hbc⟩
      obtain ⟨ta, tc, rfl, -⟩ := id hr
      have hb2 := hb1.trans (hbc.mono hb1.size)
      have hrH : Hid (Rd rgE w2 (.slice ta m.length tc) m) := hr
      clear k2 hbc hr
      clear ks
      go_wp2
      go_ret2
      exact ⟨by rw [HT.out]; exact ⟨_, rfl, rg_nil _⟩, hb2⟩
set_option maxHeartbeats 4000000 in
theorem pmerge_of (l : List Rg) (ps : List Pl) (lv v : Value) (k : K) (w : World) (hF : Rd rgE w lv l) (hP : Rd plE w v ps) (hlen : l.length ≤ 1000000) (hpl : ps.length ≤ 1000000) : Calls Try.prog 17 #[lv, v, .string (bk k)] w fun e w' => TurnT (mergeQ l ps k) e w' ∧ Below w.heap.size w w' := by
  obtain ⟨T, HT⟩ : ∃ T, Hid (T = TurnT (mergeQ l ps k)) := ⟨_, rfl⟩
  rw [← HT.out]
  have k1 := plcheck_of l ps lv v w hF.cv hP hlen hpl
  have ks : Hid (∀ W, Below w.heap.size w W → _) := fun W hW => cmerge_of l lv k W (hF.below hW)
  have ku : Hid (∀ (t : List Rg) (tv : Value) W, Rd rgE W tv t → Below w.heap.size w W → t.length ≤ 1000000 → _) := fun t tv W hT hW hl => unplanned_of t ps tv v W hT (hP.below hW) hl hpl
  have hml : Hid ((mergeM l k).2 = 0 → (mergeM l k).1.length ≤ 64) := fun h => by
    have := (merge_ok' (l := l) (t := k) (k := (mergeM l k).1) (by rw [← h])).1
    exact this.len
  obtain ⟨ao, cap, rfl, -⟩ := id hF
  obtain ⟨po, pcap, rfl, -⟩ := id hP
  unfold mergeQ at HT
  clear hF hP
  cases hB : planB l ps with
  | false =>
    rw [hB] at k1 HT
    simp only [Bool.false_eq_true, if_false] at k1
    have E : Hid (T = TurnT ([], 1)) := by show _ = _; rw [HT.out]; rfl
    clear HT hB ks ku hml
    go_enter Try.func17, Try.ntmps17
    go_wp2_with fail
    refine k1.mono ?_
    rintro e w1 ⟨rfl, hb1⟩
    go_wp2
    go_ret2
    exact ⟨by rw [E.out]; exact ⟨_, rfl, rg_nil _⟩, hb1⟩
  | true =>
    rw [hB] at k1 HT
    simp only [if_true] at k1
    replace HT : Hid (T = TurnT (metM (mergeM l k) ps)) := by show _ = _; rw [HT.out]; rfl
    unfold TurnT at ks
    generalize mergeM l k = M at *
    obtain ⟨m, c⟩ := M
    dsimp only at ks hml
    unfold metM at HT
    dsimp only at HT
    clear hB
    by_cases hc : c = 0
    · have hcd : (c != 0) = false := by simp [hc]
      rw [if_neg (by simp [hc])] at HT
      have hl := hml.out hc
      subst hc
      clear hml
      go_enter Try.func17, Try.ntmps17
      go_wp2_with fail
      refine k1.mono ?_
      rintro e w1 ⟨rfl, hb1⟩
      have k2 := ks.out w1 hb1
      go_wp2_with fail
      refine k2.mono ?_
      rintro e w2 ⟨⟨tv, rfl, hr⟩, hbc⟩
      obtain ⟨ta, tc, rfl, -⟩ := id hr
      have hb2 := hb1.trans (hbc.mono hb1.size)
      have hrH : Hid (Rd rgE w2 (.slice ta m.length tc) m) := hr
      clear k2 hbc hr
      have k3 := ku.out m _ w2 hrH.out hb2 (by omega)
      clear ks ku
      go_wp2_with fail
      refine k3.mono ?_
      rintro e w3 ⟨⟨rv_, rfl, hr3⟩, hbc⟩
      have hb3 : Hid (Below w.heap.size w w3) := hb2.trans (hbc.mono hb2.size)
      have hr3H : Hid (Rd rgE w3 rv_ (if planB m ps = true then (m, (0 : Int)) else ([], 9)).1) := hr3
      clear k3 hbc hr3 hrH hb2
      generalize (if planB m ps = true then (m, (0 : Int)) else ([], 9)) = Q at *
      obtain ⟨q1, q2⟩ := Q
      dsimp only at hr3H
      obtain ⟨ra, rcap, hrv, -⟩ := id hr3H.out
      subst hrv
      go_wp2
      go_ret2
      exact ⟨by rw [HT.out]; exact ⟨_, rfl, hr3H.out⟩, hb3.out⟩
    · have hcd : (c != 0) = true := by simpa using hc
      rw [if_pos hc] at HT
      clear hml ku hc
      go_enter Try.func17, Try.ntmps17
      go_wp2_with fail
      refine k1.mono ?_
      rintro e w1 ⟨rfl, hb1⟩
      have k2 := ks.out w1 hb1
      go_wp2_with fail
      refine k2.mono ?_
      rintro e w2 ⟨⟨tv, rfl, hr⟩, hbc⟩
      obtain ⟨ta, tc, rfl, -⟩ := id hr
      have hb2 := hb1.trans (hbc.mono hb1.size)
      have hrH : Hid (Rd rgE w2 (.slice ta m.length tc) m) := hr
      clear k2 hbc hr
      clear ks
      go_wp2
      go_ret2
      exact ⟨by rw [HT.out]; exact ⟨_, rfl, rg_nil _⟩, hb2⟩
end Go.Proofs.Ytlgnnfhnkfjafaa

