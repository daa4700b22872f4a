import Derived.Test.YtglbjimpaoikfaaHe42
import Derived.Test.YtglbjimpaoikfaaHe43
import Derived.Test.YtglbjimpaoikfaaHe41
/- Turns of a record: what may be stays so; what is decided stays so. -/
namespace Go.Proofs.Ytglbjimpaoikfaa
open Go.RowKit LeaseMath QuorumMath
set_option maxRecDepth 100000
set_option linter.unusedSimpArgs false
set_option linter.unusedVariables false

/-- All that may be of a record, apart. -/
theorem ok_iff {x : Tx} : okX x = true ↔ idB x.id = true ∧ callB (callM x) = true ∧ 0 < x.groups.length ∧ riseB x.groups = true ∧ grpB x.groups = true ∧ riseB x.yes = true ∧ subB x.yes x.groups = true ∧ riseB x.done = true ∧ subB x.done x.groups = true ∧ stateB x = true := by
  unfold okX groupsB
  simp only [Bool.and_eq_true, decide_eq_true_eq]
  constructor
  · rintro ⟨⟨⟨a, b⟩, ⟨⟨⟨⟨⟨⟨c, d⟩, e⟩, f⟩, g⟩, h⟩, i⟩⟩, j⟩
    exact ⟨a, b, c, d, e, f, g, h, i, j⟩
  · rintro ⟨a, b, c, d, e, f, g, h, i, j⟩
    exact ⟨⟨⟨a, b⟩, ⟨⟨⟨⟨⟨⟨c, d⟩, e⟩, f⟩, g⟩, h⟩, i⟩⟩, j⟩
theorem ok_keys {x : Tx} (h : okX x = true) : x.keys.length ≤ 16 := by
  have h1 := (ok_iff.1 h).2.1
  unfold callB keysB at h1
  simp only [Bool.and_eq_true, decide_eq_true_eq] at h1
  exact h1.1.2.2
theorem ok_lens {x : Tx} (h : okX x = true) : x.keys.length ≤ 40 ∧ x.groups.length ≤ 40 ∧ x.yes.length ≤ 40 ∧ x.done.length ≤ 40 := by
  have h0 := ok_keys h
  obtain ⟨-, -, -, d, e, f, g, i, j, -⟩ := ok_iff.1 h
  have h1 := rise_len d e
  have h2 := rise_len f (grp_sub e g)
  have h3 := rise_len i (grp_sub e j)
  omega
/-- A turn: what may be stays so, nothing said is lost, what is decided stays so. -/
def Stp (x y : Tx) : Prop := okX y = true ∧ x.yes.length ≤ y.yes.length ∧ x.done.length ≤ y.done.length ∧ (x.state ≠ 1 → y.state ≠ 1 ∧ y.code = x.code ∧ y.kind = x.kind ∧ y.token = x.token)
theorem st1 {x : Tx} (h : stateB x = true) (h1 : x.state = 1) : x.done.length = 0 ∧ x.code = 0 ∧ (decide (x.token ≠ 0) && allB x x.yes) = false := by
  unfold stateB at h
  rw [if_pos h1] at h
  simp only [Bool.and_eq_true, decide_eq_true_eq] at h
  exact ⟨h.1.1, h.1.2, by have h2 := h.2; rwa [Bool.not_eq_true'] at h2⟩
theorem open_ok {y : Tx} (hs : y.state = 1) (hd : y.done.length = 0) (hc : y.code = 0) (hg : 0 < y.groups.length) : stateB (agreeM y (allB y y.yes)) = true := by
  unfold agreeM
  by_cases h : y.token ≠ 0 ∧ allB y y.yes = true
  · rw [if_pos h]
    unfold stateB setS allB at *
    obtain ⟨h1, h2⟩ := h
    simp only [decide_eq_true_eq] at h2
    simp [h1, h2, hc, hd]
    omega
  · rw [if_neg h]
    unfold stateB
    rw [if_pos hs]
    simp only [hd, hc, decide_true, Bool.and_eq_true, Bool.true_and]
    cases h1 : allB y y.yes with
    | false => simp
    | true =>
      rw [h1] at h
      have : y.token = 0 := by
        by_cases h2 : y.token = 0
        · exact h2
        · exact absurd ⟨h2, rfl⟩ h
      simp [this]
theorem agree_facts (y : Tx) (b : Bool) : (agreeM y b).id = y.id ∧ (agreeM y b).keys = y.keys ∧ (agreeM y b).kind = y.kind ∧ (agreeM y b).token = y.token ∧ (agreeM y b).ttl = y.ttl ∧ (agreeM y b).groups = y.groups ∧ (agreeM y b).yes = y.yes ∧ (agreeM y b).done = y.done ∧ (agreeM y b).code = y.code := by
  unfold agreeM setS
  split <;> exact ⟨rfl, rfl, rfl, rfl, rfl, rfl, rfl, rfl, rfl⟩
theorem agree_call (y : Tx) (b : Bool) : callM (agreeM y b) = callM y := by
  obtain ⟨-, a, b', c, d, -⟩ := agree_facts y b
  unfold callM
  rw [a, b', c, d]
theorem step_token {x y : Tx} {t : Nat} (h : okX x = true) (hm : tokenM x t (allB x x.yes) = (y, 0)) : Stp x y ∧ x.state = 1 ∧ y.code = 0 ∧ x.code = 0 := by
  unfold tokenM at hm
  rw [if_pos h] at hm
  by_cases h1 : x.state = 1
  · rw [if_pos h1] at hm
    by_cases h2 : t = 0
    · rw [if_pos h2] at hm; simp at hm
    · rw [if_neg h2] at hm
      by_cases h3 : x.token = 0
      · rw [if_pos h3] at hm
        obtain rfl : agreeM (setT x t) (allB x x.yes) = y := (Prod.mk.inj hm).1
        obtain ⟨a, b, c, d, e, f, g, i, j, k⟩ := ok_iff.1 h
        obtain ⟨k1, k2, k3⟩ := st1 k h1
        obtain ⟨p1, p2, p3, p4, p5, p6, p7, p8, p9⟩ := agree_facts (setT x t) (allB x x.yes)
        have hk : x.kind = 1 := by
          unfold callB callM at b
          rw [h3] at b
          by_cases hk : x.kind = 1
          · exact hk
          · simp [hk] at b
        have hcall : callM (setT x t) = callM x := by
          unfold callM setT
          simp [hk]
        refine ⟨⟨ok_iff.2 ⟨by rw [p1]; exact a, by rw [agree_call, hcall]; exact b, by rw [p6]; exact c, by rw [p6]; exact d, by rw [p6]; exact e, by rw [p7]; exact f, by rw [p7, p6]; exact g, by rw [p8]; exact i, by rw [p8, p6]; exact j, open_ok (y := setT x t) h1 k1 k2 c⟩, by rw [p7]; exact Nat.le_refl _, by rw [p8]; exact Nat.le_refl _, fun h => absurd h1 h⟩, h1, by rw [p9]; exact k2, k2⟩
      · rw [if_neg h3] at hm; simp at hm
  · rw [if_neg h1] at hm; simp at hm
theorem sub_len_le {l m : List Int} (hl : riseB l = true) (hm : riseB m = true) (h : ∀ x ∈ l, x ∈ m) : l.length ≤ m.length := by
  unfold riseB at hl hm
  exact (sub_sublist m l (of_decide_eq_true hl) (of_decide_eq_true hm) h).length_le
theorem plus_has {l m : List Int} {g : Int} (hg : grpB m = true) (h : subB l m = true) : ∀ x ∈ l, x ∈ plusL l g 16 := by
  intro x hx
  have h1 := grp_mem hg (sub_iff.1 h x hx)
  unfold plusL
  rw [List.mem_filter]
  exact ⟨nums_mem.2 (by omega), by unfold plusP; simp [hx]⟩
theorem step_voted {x y : Tx} {g c : Int} (h : okX x = true) (hm : votedM x g c (plusL x.yes g 16) (subB x.groups (plusL x.yes g 16)) = (y, 0)) : Stp x y ∧ x.state = 1 ∧ x.code = 0 ∧ y.code = c ∧ (c ≠ 0 → y.state = 3) := by
  unfold votedM at hm
  rw [if_pos h] at hm
  obtain ⟨a, b, cc, d, e, f, gg, i, j, k⟩ := ok_iff.1 h
  by_cases hg : g ∈ x.groups
  · rw [if_pos hg] at hm
    by_cases h1 : x.state = 1
    · rw [if_pos h1] at hm
      obtain ⟨k1, k2, k3⟩ := st1 k h1
      by_cases h2 : c = 0
      · rw [if_pos h2] at hm
        by_cases h3 : g ∈ x.yes
        · rw [if_pos h3] at hm; simp at hm
        · rw [if_neg h3] at hm
          have hs := plus_sub (l := x.yes) gg hg
          have hb : subB x.groups (plusL x.yes g 16) = allB (setY x (plusL x.yes g 16)) (setY x (plusL x.yes g 16)).yes := by
            rw [sub_len (plus_rise _ _) d hs]
            rfl
          rw [hb] at hm
          obtain rfl := (Prod.mk.inj hm).1
          obtain ⟨p1, p2, p3, p4, p5, p6, p7, p8, p9⟩ := agree_facts (setY x (plusL x.yes g 16)) (allB (setY x (plusL x.yes g 16)) (setY x (plusL x.yes g 16)).yes)
          refine ⟨⟨ok_iff.2 ⟨by rw [p1]; exact a, by rw [agree_call]; exact b, by rw [p6]; exact cc, by rw [p6]; exact d, by rw [p6]; exact e, by rw [p7]; exact plus_rise _ _, by rw [p7, p6]; exact hs, by rw [p8]; exact i, by rw [p8, p6]; exact j, open_ok (y := setY x (plusL x.yes g 16)) h1 k1 k2 cc⟩, by rw [p7]; exact sub_len_le f (plus_rise _ _) (plus_has e gg), by rw [p8]; exact Nat.le_refl _, fun h => absurd h1 h⟩, h1, k2, by rw [p9, h2]; exact k2, fun h => absurd h2 h⟩
      · rw [if_neg h2] at hm
        obtain rfl : setV x c = y := (Prod.mk.inj hm).1
        refine ⟨⟨ok_iff.2 ⟨a, b, cc, d, e, f, gg, i, j, ?_⟩, Nat.le_refl _, Nat.le_refl _, fun h => absurd h1 h⟩, h1, k2, rfl, fun _ => rfl⟩
        unfold stateB setV allB
        simp [h2, k1]
        omega
    · rw [if_neg h1] at hm; simp at hm
  · rw [if_neg hg] at hm; simp at hm
theorem step_applied {x y : Tx} {g : Int} (h : okX x = true) (hm : appliedM x g (plusL x.done g 16) (subB x.groups (plusL x.done g 16)) = (y, 0)) : Stp x y ∧ x.state ≠ 1 := by
  unfold appliedM at hm
  rw [if_pos h] at hm
  obtain ⟨a, b, cc, d, e, f, gg, i, j, k⟩ := ok_iff.1 h
  by_cases hg : g ∈ x.groups
  · rw [if_pos hg] at hm
    by_cases h1 : (decide (x.state = 2) || decide (x.state = 3)) = true
    · rw [if_pos h1] at hm
      by_cases h3 : g ∈ x.done
      · rw [if_pos h3] at hm; simp at hm
      · rw [if_neg h3] at hm
        have hs := plus_sub (l := x.done) j hg
        have hb := sub_len (plus_rise x.done g) d hs
        rw [hb] at hm
        obtain rfl := (Prod.mk.inj hm).1
        have h23 : x.state = 2 ∨ x.state = 3 := by simpa using h1
        have hn1 : x.state ≠ 1 := by rcases h23 with e | e <;> rw [e] <;> decide
        have hle := sub_len_le i (plus_rise x.done g) (plus_has e j)
        unfold closeM
        by_cases hq : (plusL x.done g 16).length = x.groups.length
        · rw [decide_eq_true hq, if_pos rfl]
          refine ⟨⟨ok_iff.2 ⟨a, b, cc, d, e, f, gg, plus_rise _ _, hs, ?_⟩, Nat.le_refl _, hle, fun _ => ⟨by show (4 : Int) ≠ 1; decide, rfl, rfl, rfl⟩⟩, hn1⟩
          unfold stateB allB setD at *
          rcases h23 with e2 | e2
          · rw [if_neg hn1, if_pos e2] at k
            simp only [Bool.and_eq_true] at k
            have k0 := k.1.1
            simp [hq] at k0 ⊢
            exact .inr k0
          · rw [if_neg hn1, if_neg (by rw [e2]; decide), if_pos e2] at k
            simp only [Bool.and_eq_true, decide_eq_true_eq] at k
            simp [hq, k.1]
        · rw [decide_eq_false hq, if_neg (by decide)]
          refine ⟨⟨ok_iff.2 ⟨a, b, cc, d, e, f, gg, plus_rise _ _, hs, ?_⟩, Nat.le_refl _, hle, fun h => ⟨h, rfl, rfl, rfl⟩⟩, hn1⟩
          unfold stateB allB setD at *
          rcases h23 with e2 | e2
          · rw [if_neg hn1, if_pos e2] at k ⊢
            simp only [Bool.and_eq_true] at k
            have k0 := k.1.1
            have k1 := k.2
            simp [hq] at k0 k1 ⊢
            exact ⟨k0, k1⟩
          · rw [if_neg hn1, if_neg (by rw [e2]; decide), if_pos e2] at k ⊢
            simp only [Bool.and_eq_true, decide_eq_true_eq] at k
            simp [hq, k.1]
    · rw [if_neg h1] at hm; simp at hm
  · rw [if_neg hg] at hm; simp at hm
theorem reply_done {x : Tx} (h : okX x = true) (h1 : x.state ≠ 1) : replyM x = (x.code, if x.code = 0 ∧ x.kind = 1 then x.token else 0, true) := by
  unfold replyM
  rw [if_pos ⟨h, h1⟩]
end Go.Proofs.Ytglbjimpaoikfaa

/- A record that is asked of all and told to all comes to its end: mathematics. -/
namespace Go.Proofs.Ytglbjimpaoikfaa
open Go.RowKit LeaseMath QuorumMath
set_option maxRecDepth 100000
set_option linter.unusedSimpArgs false
set_option linter.unusedVariables false

/-- Bit g - 1 of a number. -/
def bitB (a : Nat) (g : Int) : Bool := a / 2 ^ (g - 1).toNat % 2 == 1
/-- The groups of a number's bits, up to one. -/
def grpsN (a k : Nat) : List Int := (nums k).filter (bitB a)
theorem grps_succ {a k : Nat} : grpsN a (k + 1) = if bitB a ((k : Int) + 1) = true then grpsN a k ++ [(k : Int) + 1] else grpsN a k := by
  unfold grpsN
  rw [nums_succ, List.filter_append]
  cases h : bitB a ((k : Int) + 1) <;> simp [h]
theorem grps_len (a k : Nat) : (grpsN a k).length ≤ k := by
  have := List.length_filter_le (bitB a) (nums k)
  rw [nums_len] at this
  exact this
theorem grps_mem {a k : Nat} {g : Int} : g ∈ grpsN a k ↔ (1 ≤ g ∧ g ≤ k) ∧ bitB a g = true := by
  unfold grpsN
  rw [List.mem_filter, nums_mem]
/-- Is any of the groups busy? -/
theorem and_zero {a b : Nat} (ha : a < 65536) : (a &&& b = 0) ↔ ∀ g ∈ grpsN a 16, bitB b g = false := by
  constructor
  · intro h g hg
    obtain ⟨⟨h1, h2⟩, h3⟩ := grps_mem.1 hg
    cases h4 : bitB b g with
    | false => rfl
    | true =>
      have h5 : (a &&& b).testBit (g - 1).toNat = true := by
        rw [Nat.testBit_and]
        unfold bitB at h3 h4
        rw [Nat.testBit_eq_decide_div_mod_eq, Nat.testBit_eq_decide_div_mod_eq]
        simp only [beq_iff_eq] at h3 h4
        rw [decide_eq_true h3, decide_eq_true h4]
        rfl
      rw [h] at h5
      simp at h5
  · intro h
    apply Nat.eq_of_testBit_eq
    intro i
    rw [Nat.zero_testBit, Nat.testBit_and]
    by_cases hi : i < 16
    · by_cases h1 : bitB a ((i : Int) + 1) = true
      · have h2 := h ((i : Int) + 1) (grps_mem.2 ⟨⟨by omega, by omega⟩, h1⟩)
        unfold bitB at h2
        have e : ((i : Int) + 1 - 1).toNat = i := by omega
        rw [e] at h2
        have : b.testBit i = false := by
          rw [Nat.testBit_eq_decide_div_mod_eq]
          simpa using h2
        simp [this]
      · unfold bitB at h1
        have e : ((i : Int) + 1 - 1).toNat = i := by omega
        rw [e] at h1
        have : a.testBit i = false := by
          rw [Nat.testBit_eq_decide_div_mod_eq]
          simpa using h1
        simp [this]
    · have : a.testBit i = false := Nat.testBit_lt_two_pow (Nat.lt_of_lt_of_le ha (by
        have := Nat.pow_le_pow_right (n := 2) (by decide) (show 16 ≤ i by omega)
        simpa using this))
      simp [this]
theorem take_not {l : List Int} (h : riseB l = true) {j : Nat} {g : Int} (hg : l[j]? = some g) : g ∉ l.take j := by
  unfold riseB at h
  have hp := of_decide_eq_true h
  intro hm
  obtain ⟨i, hi, e⟩ := List.mem_iff_getElem.1 hm
  rw [List.length_take] at hi
  rw [List.getElem_take] at e
  obtain ⟨hj, e2⟩ := List.getElem?_eq_some_iff.1 hg
  have := List.pairwise_iff_getElem.1 hp i j (by omega) hj (by omega)
  omega
theorem lack_take {l : List Int} (h : riseB l = true) (j : Nat) : lack (l.take j) l = l.drop j := by
  have hp : l.Pairwise (· < ·) := by unfold riseB at h; exact of_decide_eq_true h
  refine ris_eq (hp.sublist List.filter_sublist) (hp.sublist (List.drop_sublist _ _)) fun x => ?_
  rw [lack_mem]
  have hx : x ∈ l ↔ x ∈ l.take j ∨ x ∈ l.drop j := by rw [← List.mem_append, List.take_append_drop]
  constructor
  · rintro ⟨h1, h2⟩
    exact (hx.1 h1).resolve_left h2
  · intro h1
    refine ⟨hx.2 (.inr h1), fun h2 => ?_⟩
    have hd : (l.take j ++ l.drop j).Pairwise (· < ·) := by rw [List.take_append_drop]; exact hp
    have := (List.pairwise_append.1 hd).2.2 x h2 x h1
    omega
theorem plus_take {l : List Int} (h : riseB l = true) (hg : grpB l = true) {j : Nat} {g : Int} (hj : l[j]? = some g) : plusL (l.take j) g 16 = l.take (j + 1) := by
  have hp : l.Pairwise (· < ·) := by unfold riseB at h; exact of_decide_eq_true h
  refine ris_eq ((nums_ris 16).sublist List.filter_sublist) (hp.sublist (List.take_sublist _ _)) fun x => ?_
  have hgl : g ∈ l := List.mem_of_getElem? hj
  unfold plusL
  rw [List.mem_filter, nums_mem, take_succ_get hj, List.mem_append, List.mem_singleton]
  unfold plusP
  rw [Bool.or_eq_true, decide_eq_true_eq, decide_eq_true_eq]
  constructor
  · rintro ⟨-, h | h⟩
    · exact .inr h
    · exact .inl h
  · rintro (h | h)
    · have := grp_mem hg (List.mem_of_mem_take h)
      exact ⟨by omega, .inr h⟩
    · have := grp_mem hg hgl
      exact ⟨by omega, .inl h⟩
/-- What stands between two rounds: it is asked, or it is told. G: the groups, b: who refuses. -/
def AskP (G : List Int) (b : Nat) (x : Tx) (n : Nat) : Prop := okX x = true ∧ x.groups = G ∧ x.state = 1 ∧ x.token ≠ 0 ∧ ∃ j, x.yes = G.take j ∧ n = j ∧ j < G.length ∧ ∀ g ∈ G.take j, bitB b g = false
def TelP (G : List Int) (b : Nat) (x : Tx) (n : Nat) : Prop := okX x = true ∧ x.groups = G ∧ x.state ≠ 1 ∧ (x.code = 0 ↔ ∀ g ∈ G, bitB b g = false) ∧ ∃ j, x.done = G.take j ∧ n ≤ G.length + j ∧ j ≤ G.length ∧ (x.state = 4 ↔ j = G.length)
theorem ask_p {G : List Int} {b n : Nat} {x : Tx} (h : AskP G b x n) : askM x = G.drop n ∧ n < G.length ∧ tellM x = [] := by
  obtain ⟨h1, h2, h3, h4, j, h5, h6, h7, h8⟩ := h
  unfold askM tellM
  rw [if_pos ⟨h1, h3, h4⟩, if_neg (by rintro ⟨-, e | e⟩ <;> rw [h3] at e <;> revert e <;> decide), h2, h5, lack_take (by rw [← h2]; exact (ok_iff.1 h1).2.2.2.1), h6]
  exact ⟨rfl, h7, rfl⟩
theorem tel_p {G : List Int} {b n : Nat} {x : Tx} (h : TelP G b x n) (h4 : x.state ≠ 4) : askM x = [] ∧ ∃ j, x.done = G.take j ∧ n ≤ G.length + j ∧ j < G.length ∧ tellM x = G.drop j := by
  obtain ⟨h1, h2, h3, hc, j, h5, h6, h7, h8⟩ := h
  have hs : x.state = 2 ∨ x.state = 3 := by
    rcases okX_state h1 with e | e | e | e
    · exact absurd e h3
    · exact .inl e
    · exact .inr e
    · exact absurd e h4
  unfold askM tellM
  rw [if_neg (fun h => h3 h.2.1), if_pos ⟨h1, hs⟩, h2, h5, lack_take (by rw [← h2]; exact (ok_iff.1 h1).2.2.2.1)]
  have hj : j ≠ G.length := fun e => h4 (h8.2 e)
  exact ⟨rfl, j, rfl, h6, by omega, rfl⟩
theorem ask_yes {G : List Int} {b n : Nat} {x : Tx} {g : Int} (h : AskP G b x n) (hg : G[n]? = some g) (hb : bitB b g = false) : ∃ y, votedM x g 0 (plusL x.yes g 16) (subB x.groups (plusL x.yes g 16)) = (y, 0) ∧ (AskP G b y (n + 1) ∨ TelP G b y (n + 1)) := by
  obtain ⟨h1, h2, h3, h4, j, h5, rfl, h7, h8⟩ := h
  obtain ⟨a, bb, cc, d, e, f, gg, i, k, l⟩ := ok_iff.1 h1
  obtain ⟨k1, k2, k3⟩ := st1 l h3
  have hgm : g ∈ x.groups := by rw [h2]; exact List.mem_of_getElem? hg
  have hny : g ∉ x.yes := by rw [h5]; exact take_not (by rw [← h2]; exact d) hg
  have hm : votedM x g 0 (plusL x.yes g 16) (subB x.groups (plusL x.yes g 16)) = (agreeM (setY x (plusL x.yes g 16)) (subB x.groups (plusL x.yes g 16)), 0) := by
    unfold votedM
    rw [if_pos h1, if_pos hgm, if_pos h3, if_pos rfl, if_neg hny]
  refine ⟨_, hm, ?_⟩
  obtain ⟨⟨o1, -, -, -⟩, -, -, o5, -⟩ := step_voted h1 hm
  have hp : plusL x.yes g 16 = G.take (n + 1) := by rw [h5]; exact plus_take (by rw [← h2]; exact d) (by rw [← h2]; exact e) hg
  have hall : ∀ q ∈ G.take (n + 1), bitB b q = false := by
    intro q hq
    rw [take_succ_get hg, List.mem_append, List.mem_singleton] at hq
    rcases hq with hq | rfl
    · exact h8 q hq
    · exact hb
  have hlen : (G.take (n + 1)).length = n + 1 := by rw [List.length_take]; omega
  have hs := sub_len (plus_rise x.yes g) d (plus_sub (l := x.yes) gg hgm)
  rw [hs, hp, hlen, h2] at o1 o5 ⊢
  by_cases hq : n + 1 = G.length
  · rw [decide_eq_true hq] at o1 o5 ⊢
    have hst : agreeM (setY x (G.take (n + 1))) true = setS (setY x (G.take (n + 1))) 2 := by
      unfold agreeM
      rw [if_pos ⟨h4, rfl⟩]
    rw [hst] at o1 o5 ⊢
    refine .inr ⟨o1, h2, by show (2 : Int) ≠ 1; decide, ⟨fun _ q hq2 => hall q (by rw [hq, List.take_length]; exact hq2), fun _ => o5⟩, 0, ?_, by omega, by omega, ⟨fun e => ?_, fun e => ?_⟩⟩
    · show x.done = _
      rw [List.take_zero]
      exact List.eq_nil_of_length_eq_zero k1
    · exact absurd (show (2 : Int) = 4 from e) (by decide)
    · omega
  · rw [decide_eq_false hq] at o1 o5 ⊢
    have hst : agreeM (setY x (G.take (n + 1))) false = setY x (G.take (n + 1)) := by
      unfold agreeM
      rw [if_neg (by rintro ⟨-, e⟩; cases e)]
    rw [hst] at o1 o5 ⊢
    exact .inl ⟨o1, h2, h3, h4, n + 1, rfl, rfl, by omega, hall⟩
theorem ask_no {G : List Int} {b n : Nat} {x : Tx} {g : Int} (h : AskP G b x n) (hg : G[n]? = some g) (hb : bitB b g = true) : ∃ y, votedM x g 8 (plusL x.yes g 16) (subB x.groups (plusL x.yes g 16)) = (y, 0) ∧ (AskP G b y (n + 1) ∨ TelP G b y (n + 1)) := by
  obtain ⟨h1, h2, h3, h4, j, h5, rfl, h7, h8⟩ := h
  obtain ⟨a, bb, cc, d, e, f, gg, i, k, l⟩ := ok_iff.1 h1
  obtain ⟨k1, k2, k3⟩ := st1 l h3
  have hgG : g ∈ G := List.mem_of_getElem? hg
  have hgm : g ∈ x.groups := by rw [h2]; exact hgG
  have hm : votedM x g 8 (plusL x.yes g 16) (subB x.groups (plusL x.yes g 16)) = (setV x 8, 0) := by
    unfold votedM
    rw [if_pos h1, if_pos hgm, if_pos h3, if_neg (by decide)]
  refine ⟨_, hm, .inr ?_⟩
  obtain ⟨⟨o1, -, -, -⟩, -, -, o5, -⟩ := step_voted h1 hm
  refine ⟨o1, h2, by show (3 : Int) ≠ 1; decide, ⟨fun e => absurd (show (8 : Int) = 0 from e) (by decide), fun e => ?_⟩, 0, ?_, by omega, by omega, ⟨fun e => absurd (show (3 : Int) = 4 from e) (by decide), fun e => ?_⟩⟩
  · rw [e g hgG] at hb
    cases hb
  · show x.done = _
    rw [List.take_zero]
    exact List.eq_nil_of_length_eq_zero k1
  · omega
theorem tel_one {G : List Int} {b n : Nat} {x : Tx} (h : TelP G b x n) (h4 : x.state ≠ 4) {j : Nat} {g : Int} (hd : x.done = G.take j) (hg : G[j]? = some g) : ∃ y, appliedM x g (plusL x.done g 16) (subB x.groups (plusL x.done g 16)) = (y, 0) ∧ TelP G b y (n + 1) := by
  obtain ⟨h1, h2, h3, hc, j', h5, h6, h7, h8⟩ := h
  obtain ⟨a, bb, cc, d, e, f, gg, i, k, l⟩ := ok_iff.1 h1
  have hjl := (List.getElem?_eq_some_iff.1 hg).1
  have hjj : j' = j := by
    have := congrArg List.length (h5.symm.trans hd)
    rw [List.length_take, List.length_take] at this
    omega
  subst hjj
  have hs2 : x.state = 2 ∨ x.state = 3 := by
    rcases okX_state h1 with e | e | e | e
    · exact absurd e h3
    · exact .inl e
    · exact .inr e
    · exact absurd e h4
  have hto : (decide (x.state = 2) || decide (x.state = 3)) = true := by rcases hs2 with e | e <;> simp [e]
  have hgm : g ∈ x.groups := by rw [h2]; exact List.mem_of_getElem? hg
  have hny : g ∉ x.done := by rw [h5]; exact take_not (by rw [← h2]; exact d) hg
  have hm : appliedM x g (plusL x.done g 16) (subB x.groups (plusL x.done g 16)) = (closeM (setD x (plusL x.done g 16)) (subB x.groups (plusL x.done g 16)), 0) := by
    unfold appliedM
    rw [if_pos h1, if_pos hgm, if_pos hto, if_neg hny]
  refine ⟨_, hm, ?_⟩
  obtain ⟨⟨o1, -, -, o4⟩, -⟩ := step_applied h1 hm
  have hp : plusL x.done g 16 = G.take (j' + 1) := by rw [h5]; exact plus_take (by rw [← h2]; exact d) (by rw [← h2]; exact e) hg
  have hlen : (G.take (j' + 1)).length = j' + 1 := by rw [List.length_take]; omega
  have hs := sub_len (plus_rise x.done g) d (plus_sub (l := x.done) k hgm)
  rw [hs, hp, hlen, h2] at o1 o4 ⊢
  obtain ⟨p1, p2, -, -⟩ := o4 h3
  by_cases hq : j' + 1 = G.length
  · rw [decide_eq_true hq] at o1 p1 p2 ⊢
    exact ⟨o1, h2, p1, by rw [p2]; exact hc, j' + 1, rfl, by omega, by omega, ⟨fun _ => hq, fun _ => rfl⟩⟩
  · rw [decide_eq_false hq] at o1 p1 p2 ⊢
    exact ⟨o1, h2, p1, by rw [p2]; exact hc, j' + 1, rfl, by omega, by omega, ⟨fun e => absurd e h4, fun e => absurd e hq⟩⟩
/-- How it begins. -/
theorem begin_p {d : Cq} {c : Cl} {G : List Int} {b : Nat} (h : okX (beginX d c G) = true) : (c.kind ≠ 1 → AskP G b (beginX d c G) 0) ∧ (c.kind = 1 → ∃ y, tokenM (beginX d c G) 9 (allB (beginX d c G) (beginX d c G).yes) = (y, 0) ∧ AskP G b y 0) := by
  obtain ⟨a, bb, cc, dd, e, f, gg, i, k, l⟩ := ok_iff.1 h
  have hG : 0 < G.length := cc
  constructor
  · intro hk
    have ht : (beginX d c G).token ≠ 0 := by
      unfold callB callM at bb
      have hk' : (beginX d c G).kind ≠ 1 := hk
      intro e0
      rw [if_neg hk', e0] at bb
      simp [hk'] at bb
    exact ⟨h, rfl, rfl, ht, 0, rfl, rfl, hG, by simp⟩
  · intro hk
    have ht : (beginX d c G).token = 0 := by unfold beginX; rw [if_pos hk]
    have hnot : allB (beginX d c G) (beginX d c G).yes = false := by
      unfold allB
      rw [decide_eq_false_iff_not]
      show ¬ (0 = G.length)
      omega
    have hm : tokenM (beginX d c G) 9 (allB (beginX d c G) (beginX d c G).yes) = (setT (beginX d c G) 9, 0) := by
      unfold tokenM
      rw [if_pos h, if_pos (show (beginX d c G).state = 1 from rfl), if_neg (by decide), if_pos ht, hnot]
      unfold agreeM
      rw [if_neg (by rintro ⟨-, e⟩; cases e)]
    refine ⟨_, hm, ?_⟩
    obtain ⟨⟨o1, -⟩, -⟩ := step_token h hm
    exact ⟨o1, rfl, rfl, by show (9 : Nat) ≠ 0; decide, 0, rfl, rfl, hG, by simp⟩
/-- Where Begin refuses, the record may not be, or the call has a token that it may not have. -/
theorem begin_no {d : Cq} {c : Cl} {G : List Int} (h : okX (beginX d c G) = false) : okX ⟨d, c.kind, c.keys, c.token, c.ttl, G, 1, [], [], 0⟩ = false ∨ c.kind = 1 ∧ c.token ≠ 0 := by
  by_cases hk : c.kind = 1
  · by_cases ht : c.token = 0
    · refine .inl ?_
      rw [← h]
      unfold beginX
      rw [if_pos hk, ht]
    · exact .inr ⟨hk, ht⟩
  · refine .inl ?_
    rw [← h]
    unfold beginX
    rw [if_neg hk]
end Go.Proofs.Ytglbjimpaoikfaa

