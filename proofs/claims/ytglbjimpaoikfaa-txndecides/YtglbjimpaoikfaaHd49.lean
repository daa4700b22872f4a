import Derived.Test.YtglbjimpaoikfaaHd47
import Derived.Test.YtglbjimpaoikfaaHd48
/- Turns of a record: what may be stays so; what is decided stays so. -/
namespace Go.Proofs.Ytglbjimpaoikfaa
open Go.RowKit LeaseMath QuorumMath
set_option maxRecDepth 100000
set_option linter.unusedSimpArgs false
set_option linter.unusedVariables false

/-- All that may be of a record, apart. -/
theorem ok_iff {x : Tx} : okX x = true ↔ idB x.id = true ∧ callB (callM x) = true ∧ 0 < x.groups.length ∧ riseB x.groups = true ∧ grpB x.groups = true ∧ riseB x.yes = true ∧ subB x.yes x.groups = true ∧ riseB x.done = true ∧ subB x.done x.groups = true ∧ stateB x = true := by
  unfold okX groupsB
  simp only [Bool.and_eq_true, decide_eq_true_eq]
  constructor
  · rintro ⟨⟨⟨a, b⟩, ⟨⟨⟨⟨⟨⟨c, d⟩, e⟩, f⟩, g⟩, h⟩, i⟩⟩, j⟩
    exact ⟨a, b, c, d, e, f, g, h, i, j⟩
  · rintro ⟨a, b, c, d, e, f, g, h, i, j⟩
    exact ⟨⟨⟨a, b⟩, ⟨⟨⟨⟨⟨⟨c, d⟩, e⟩, f⟩, g⟩, h⟩, i⟩⟩, j⟩
theorem ok_keys {x : Tx} (h : okX x = true) : x.keys.length ≤ 16 := by
  have h1 := (ok_iff.1 h).2.1
  unfold callB keysB at h1
  simp only [Bool.and_eq_true, decide_eq_true_eq] at h1
  exact h1.1.2.2
theorem ok_lens {x : Tx} (h : okX x = true) : x.keys.length ≤ 40 ∧ x.groups.length ≤ 40 ∧ x.yes.length ≤ 40 ∧ x.done.length ≤ 40 := by
  have h0 := ok_keys h
  obtain ⟨-, -, -, d, e, f, g, i, j, -⟩ := ok_iff.1 h
  have h1 := rise_len d e
  have h2 := rise_len f (grp_sub e g)
  have h3 := rise_len i (grp_sub e j)
  omega
/-- A turn: what may be stays so, nothing said is lost, what is decided stays so. -/
def Stp (x y : Tx) : Prop := okX y = true ∧ x.yes.length ≤ y.yes.length ∧ x.done.length ≤ y.done.length ∧ (x.state ≠ 1 → y.state ≠ 1 ∧ y.code = x.code ∧ y.kind = x.kind ∧ y.token = x.token)
theorem st1 {x : Tx} (h : stateB x = true) (h1 : x.state = 1) : x.done.length = 0 ∧ x.code = 0 ∧ (decide (x.token ≠ 0) && allB x x.yes) = false := by
  unfold stateB at h
  rw [if_pos h1] at h
  simp only [Bool.and_eq_true, decide_eq_true_eq] at h
  exact ⟨h.1.1, h.1.2, by have h2 := h.2; rwa [Bool.not_eq_true'] at h2⟩
theorem open_ok {y : Tx} (hs : y.state = 1) (hd : y.done.length = 0) (hc : y.code = 0) (hg : 0 < y.groups.length) : stateB (agreeM y (allB y y.yes)) = true := by
  unfold agreeM
  by_cases h : y.token ≠ 0 ∧ allB y y.yes = true
  · rw [if_pos h]
    unfold stateB setS allB at *
    obtain ⟨h1, h2⟩ := h
    simp only [decide_eq_true_eq] at h2
    simp [h1, h2, hc, hd]
    omega
  · rw [if_neg h]
    unfold stateB
    rw [if_pos hs]
    simp only [hd, hc, decide_true, Bool.and_eq_true, Bool.true_and]
    cases h1 : allB y y.yes with
    | false => simp
    | true =>
      rw [h1] at h
      have : y.token = 0 := by
        by_cases h2 : y.token = 0
        · exact h2
        · exact absurd ⟨h2, rfl⟩ h
      simp [this]
theorem agree_facts (y : Tx) (b : Bool) : (agreeM y b).id = y.id ∧ (agreeM y b).keys = y.keys ∧ (agreeM y b).kind = y.kind ∧ (agreeM y b).token = y.token ∧ (agreeM y b).ttl = y.ttl ∧ (agreeM y b).groups = y.groups ∧ (agreeM y b).yes = y.yes ∧ (agreeM y b).done = y.done ∧ (agreeM y b).code = y.code := by
  unfold agreeM setS
  split <;> exact ⟨rfl, rfl, rfl, rfl, rfl, rfl, rfl, rfl, rfl⟩
theorem agree_call (y : Tx) (b : Bool) : callM (agreeM y b) = callM y := by
  obtain ⟨-, a, b', c, d, -⟩ := agree_facts y b
  unfold callM
  rw [a, b', c, d]
theorem step_token {x y : Tx} {t : Nat} (h : okX x = true) (hm : tokenM x t (allB x x.yes) = (y, 0)) : Stp x y ∧ x.state = 1 ∧ y.code = 0 ∧ x.code = 0 := by
  unfold tokenM at hm
  rw [if_pos h] at hm
  by_cases h1 : x.state = 1
  · rw [if_pos h1] at hm
    by_cases h2 : t = 0
    · rw [if_pos h2] at hm; simp at hm
    · rw [if_neg h2] at hm
      by_cases h3 : x.token = 0
      · rw [if_pos h3] at hm
        obtain rfl : agreeM (setT x t) (allB x x.yes) = y := (Prod.mk.inj hm).1
        obtain ⟨a, b, c, d, e, f, g, i, j, k⟩ := ok_iff.1 h
        obtain ⟨k1, k2, k3⟩ := st1 k h1
        obtain ⟨p1, p2, p3, p4, p5, p6, p7, p8, p9⟩ := agree_facts (setT x t) (allB x x.yes)
        have hk : x.kind = 1 := by
          unfold callB callM at b
          rw [h3] at b
          by_cases hk : x.kind = 1
          · exact hk
          · simp [hk] at b
        have hcall : callM (setT x t) = callM x := by
          unfold callM setT
          simp [hk]
        refine ⟨⟨ok_iff.2 ⟨by rw [p1]; exact a, by rw [agree_call, hcall]; exact b, by rw [p6]; exact c, by rw [p6]; exact d, by rw [p6]; exact e, by rw [p7]; exact f, by rw [p7, p6]; exact g, by rw [p8]; exact i, by rw [p8, p6]; exact j, open_ok (y := setT x t) h1 k1 k2 c⟩, by rw [p7]; exact Nat.le_refl _, by rw [p8]; exact Nat.le_refl _, fun h => absurd h1 h⟩, h1, by rw [p9]; exact k2, k2⟩
      · rw [if_neg h3] at hm; simp at hm
  · rw [if_neg h1] at hm; simp at hm
theorem sub_len_le {l m : List Int} (hl : riseB l = true) (hm : riseB m = true) (h : ∀ x ∈ l, x ∈ m) : l.length ≤ m.length := by
  unfold riseB at hl hm
  exact (sub_sublist m l (of_decide_eq_true hl) (of_decide_eq_true hm) h).length_le
theorem plus_has {l m : List Int} {g : Int} (hg : grpB m = true) (h : subB l m = true) : ∀ x ∈ l, x ∈ plusL l g 16 := by
  intro x hx
  have h1 := grp_mem hg (sub_iff.1 h x hx)
  unfold plusL
  rw [List.mem_filter]
  exact ⟨nums_mem.2 (by omega), by unfold plusP; simp [hx]⟩
theorem step_voted {x y : Tx} {g c : Int} (h : okX x = true) (hm : votedM x g c (plusL x.yes g 16) (subB x.groups (plusL x.yes g 16)) = (y, 0)) : Stp x y ∧ x.state = 1 ∧ x.code = 0 ∧ y.code = c ∧ (c ≠ 0 → y.state = 3) := by
  unfold votedM at hm
  rw [if_pos h] at hm
  obtain ⟨a, b, cc, d, e, f, gg, i, j, k⟩ := ok_iff.1 h
  by_cases hg : g ∈ x.groups
  · rw [if_pos hg] at hm
    by_cases h1 : x.state = 1
    · rw [if_pos h1] at hm
      obtain ⟨k1, k2, k3⟩ := st1 k h1
      by_cases h2 : c = 0
      · rw [if_pos h2] at hm
        by_cases h3 : g ∈ x.yes
        · rw [if_pos h3] at hm; simp at hm
        · rw [if_neg h3] at hm
          have hs := plus_sub (l := x.yes) gg hg
          have hb : subB x.groups (plusL x.yes g 16) = allB (setY x (plusL x.yes g 16)) (setY x (plusL x.yes g 16)).yes := by
            rw [sub_len (plus_rise _ _) d hs]
            rfl
          rw [hb] at hm
          obtain rfl := (Prod.mk.inj hm).1
          obtain ⟨p1, p2, p3, p4, p5, p6, p7, p8, p9⟩ := agree_facts (setY x (plusL x.yes g 16)) (allB (setY x (plusL x.yes g 16)) (setY x (plusL x.yes g 16)).yes)
          refine ⟨⟨ok_iff.2 ⟨by rw [p1]; exact a, by rw [agree_call]; exact b, by rw [p6]; exact cc, by rw [p6]; exact d, by rw [p6]; exact e, by rw [p7]; exact plus_rise _ _, by rw [p7, p6]; exact hs, by rw [p8]; exact i, by rw [p8, p6]; exact j, open_ok (y := setY x (plusL x.yes g 16)) h1 k1 k2 cc⟩, by rw [p7]; exact sub_len_le f (plus_rise _ _) (plus_has e gg), by rw [p8]; exact Nat.le_refl _, fun h => absurd h1 h⟩, h1, k2, by rw [p9, h2]; exact k2, fun h => absurd h2 h⟩
      · rw [if_neg h2] at hm
        obtain rfl : setV x c = y := (Prod.mk.inj hm).1
        refine ⟨⟨ok_iff.2 ⟨a, b, cc, d, e, f, gg, i, j, ?_⟩, Nat.le_refl _, Nat.le_refl _, fun h => absurd h1 h⟩, h1, k2, rfl, fun _ => rfl⟩
        unfold stateB setV allB
        simp [h2, k1]
        omega
    · rw [if_neg h1] at hm; simp at hm
  · rw [if_neg hg] at hm; simp at hm
theorem step_applied {x y : Tx} {g : Int} (h : okX x = true) (hm : appliedM x g (plusL x.done g 16) (subB x.groups (plusL x.done g 16)) = (y, 0)) : Stp x y ∧ x.state ≠ 1 := by
  unfold appliedM at hm
  rw [if_pos h] at hm
  obtain ⟨a, b, cc, d, e, f, gg, i, j, k⟩ := ok_iff.1 h
  by_cases hg : g ∈ x.groups
  · rw [if_pos hg] at hm
    by_cases h1 : (decide (x.state = 2) || decide (x.state = 3)) = true
    · rw [if_pos h1] at hm
      by_cases h3 : g ∈ x.done
      · rw [if_pos h3] at hm; simp at hm
      · rw [if_neg h3] at hm
        have hs := plus_sub (l := x.done) j hg
        have hb := sub_len (plus_rise x.done g) d hs
        rw [hb] at hm
        obtain rfl := (Prod.mk.inj hm).1
        have h23 : x.state = 2 ∨ x.state = 3 := by simpa using h1
        have hn1 : x.state ≠ 1 := by rcases h23 with e | e <;> rw [e] <;> decide
        have hle := sub_len_le i (plus_rise x.done g) (plus_has e j)
        unfold closeM
        by_cases hq : (plusL x.done g 16).length = x.groups.length
        · rw [decide_eq_true hq, if_pos rfl]
          refine ⟨⟨ok_iff.2 ⟨a, b, cc, d, e, f, gg, plus_rise _ _, hs, ?_⟩, Nat.le_refl _, hle, fun _ => ⟨by show (4 : Int) ≠ 1; decide, rfl, rfl, rfl⟩⟩, hn1⟩
          unfold stateB allB setD at *
          rcases h23 with e2 | e2
          · rw [if_neg hn1, if_pos e2] at k
            simp only [Bool.and_eq_true] at k
            have k0 := k.1.1
            simp [hq] at k0 ⊢
            exact .inr k0
          · rw [if_neg hn1, if_neg (by rw [e2]; decide), if_pos e2] at k
            simp only [Bool.and_eq_true, decide_eq_true_eq] at k
            simp [hq, k.1]
        · rw [decide_eq_false hq, if_neg (by decide)]
          refine ⟨⟨ok_iff.2 ⟨a, b, cc, d, e, f, gg, plus_rise _ _, hs, ?_⟩, Nat.le_refl _, hle, fun h => ⟨h, rfl, rfl, rfl⟩⟩, hn1⟩
          unfold stateB allB setD at *
          rcases h23 with e2 | e2
          · rw [if_neg hn1, if_pos e2] at k ⊢
            simp only [Bool.and_eq_true] at k
            have k0 := k.1.1
            have k1 := k.2
            simp [hq] at k0 k1 ⊢
            exact ⟨k0, k1⟩
          · rw [if_neg hn1, if_neg (by rw [e2]; decide), if_pos e2] at k ⊢
            simp only [Bool.and_eq_true, decide_eq_true_eq] at k
            simp [hq, k.1]
    · rw [if_neg h1] at hm; simp at hm
  · rw [if_neg hg] at hm; simp at hm
/-- What came of one that may be. -/
theorem reply_open {x : Tx} (h1 : x.state = 1) : replyM x = (0, 0, false) := by
  unfold replyM
  rw [if_neg (fun h => h.2 h1)]
theorem reply_done {x : Tx} (h : okX x = true) (h1 : x.state ≠ 1) : replyM x = (x.code, if x.code = 0 ∧ x.kind = 1 then x.token else 0, true) := by
  unfold replyM
  rw [if_pos ⟨h, h1⟩]
theorem commit_all {x : Tx} (h : okX x = true) (h1 : x.state ≠ 1) (hc : x.code = 0) : x.yes.length = x.groups.length := by
  have k := (ok_iff.1 h).2.2.2.2.2.2.2.2.2
  unfold stateB allB at k
  rw [if_neg h1] at k
  simp [hc] at k
  split at k
  · exact k.1.2
  · exact k.2.2.2.2
theorem closed_all {x : Tx} (h : okX x = true) (h4 : x.state = 4) : x.done.length = x.groups.length := by
  have k := (ok_iff.1 h).2.2.2.2.2.2.2.2.2
  unfold stateB allB at k
  rw [h4] at k
  simp at k
  exact k.1
end Go.Proofs.Ytglbjimpaoikfaa

