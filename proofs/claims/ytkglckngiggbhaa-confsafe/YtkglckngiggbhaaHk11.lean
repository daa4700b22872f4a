import Derived.Test.YtkglckngiggbhaaHk10
/- The way from voters to others: plain mathematics. -/
namespace QuorumMath
set_option linter.unusedSimpArgs false
set_option linter.unusedVariables false

/-- The nodes of some that others have not. -/
def lack (o v : List Int) : List Int := v.filter fun n => decide (n ∉ o)
theorem lack_mem {o v : List Int} {n : Int} : n ∈ lack o v ↔ n ∈ v ∧ n ∉ o := by simp [lack]
theorem lack_in {o v : List Int} {i : Nat} {x : Int} (h : v[i]? = some x) (hx : x ∈ o) : lack o (v.take (i + 1)) = lack o (v.take i) := by
  unfold lack
  rw [List.take_add_one, h, List.filter_append]
  simp [hx]
theorem lack_out {o v : List Int} {i : Nat} {x : Int} (h : v[i]? = some x) (hx : x ∉ o) : lack o (v.take (i + 1)) = lack o (v.take i) ++ [x] := by
  unfold lack
  rw [List.take_add_one, h, List.filter_append]
  simp [hx]
theorem lack_len (o v : List Int) : (lack o v).length ≤ v.length := List.length_filter_le _ _
theorem lack_cnt (o v : List Int) : (lack o v).length + cnt v o = v.length := by
  unfold lack cnt
  rw [← List.countP_eq_length_filter, List.length_eq_countP_add_countP (fun n => decide (n ∉ o))]
  congr 1
  apply List.countP_congr
  intro n _
  simp
/-- By the numbers one after the other. -/
theorem lack_nums {o v : List Int} (hv : Ris v) : lack o v = (nums 7).filter fun n => decide (n ∈ v) && !decide (n ∈ o) := by
  refine rising_ext (hv.2.sublist List.filter_sublist) ((nums_ris 7).sublist List.filter_sublist) fun n => ?_
  rw [lack_mem, List.mem_filter, nums_mem]
  constructor
  · rintro ⟨h1, h2⟩
    exact ⟨hv.1 n h1, by simp [h1, h2]⟩
  · rintro ⟨h1, h2⟩
    simpa using h2
theorem cnt_comm {a b : List Int} (ha : Ris a) (hb : Ris b) : cnt a b = cnt b a := by
  unfold cnt
  rw [List.countP_eq_length_filter, List.countP_eq_length_filter]
  congr 1
  refine rising_ext (ha.2.sublist List.filter_sublist) (hb.2.sublist List.filter_sublist) fun n => ?_
  simp [List.mem_filter]
  exact And.comm

/-- The way goes on by one node. -/
def extM (inn : Bool) (ws : List (List Int)) (z : Int) : List (List Int) := ws ++ [(nextC (ws.getLastD []) z inn).2]
def extAll (inn : Bool) (ws : List (List Int)) (zs : List Int) : List (List Int) := zs.foldl (extM inn) ws
theorem extAll_snoc (inn : Bool) (ws : List (List Int)) (zs : List Int) (z : Int) : extAll inn ws (zs ++ [z]) = extM inn (extAll inn ws zs) z := by simp [extAll]
theorem extM_len (inn : Bool) (ws : List (List Int)) (z : Int) : (extM inn ws z).length = ws.length + 1 := by simp [extM]
theorem extAll_len (inn : Bool) (ws : List (List Int)) : ∀ zs : List Int, (extAll inn ws zs).length = ws.length + zs.length := by
  intro zs
  induction zs generalizing ws with
  | nil => rfl
  | cons z zs ih =>
    show (extAll inn (extM inn ws z) zs).length = _
    rw [ih, extM_len, List.length_cons]
    omega
def wayM (f t : List Int) : List (List Int) := extAll false (extAll true [f] (lack f t)) (lack t f)
def DifM (a b : List Int) : Int := (a.length : Int) + (b.length : Int) - 2 * (cnt a b : Nat)
/-- Each next ones are voters, one node apart. -/
def ChainW (ws : List (List Int)) : Prop := ∀ i a b, ws[i]? = some a → ws[i + 1]? = some b → votB b = true ∧ DifM a b = 1
def WayOk (f : List Int) (ws : List (List Int)) (S : Int → Prop) : Prop := ∃ ws' l, ws = ws' ++ [l] ∧ votB l = true ∧ (∀ n, n ∈ l ↔ S n) ∧ ChainW ws ∧ ws[0]? = some f
theorem chain_snoc {ws : List (List Int)} {l m : List Int} (h : ChainW (ws ++ [l])) (h1 : votB m = true) (h2 : DifM l m = 1) : ChainW (ws ++ [l] ++ [m]) := by
  intro i a b ha hb
  by_cases hi : i + 1 < (ws ++ [l]).length
  · rw [List.getElem?_append_left hi] at hb
    rw [List.getElem?_append_left (by omega)] at ha
    exact h i a b ha hb
  · have hl := (List.getElem?_eq_some_iff.1 hb).1
    have hi2 : i = ws.length := by
      simp at hl hi
      omega
    subst hi2
    have e1 : b = m := by simpa using hb.symm
    have e2 : a = l := by simpa using ha.symm
    subst e1 e2
    exact ⟨h1, h2⟩
theorem head_snoc {ws : List (List Int)} {f m : List Int} (h : ws[0]? = some f) : (ws ++ [m])[0]? = some f := by
  rw [List.getElem?_append_left ((List.getElem?_eq_some_iff.1 h).1)]
  exact h
theorem next_yes {v : List Int} {z : Int} {inn : Bool} (hv : votB v = true) (hz : 1 ≤ z ∧ z ≤ 7) (hn : decide (z ∈ v) ≠ inn) (h0 : 0 < (keepM v z inn).length) : nextC v z inn = (0, keepM v z inn) ∧ votB (keepM v z inn) = true ∧ DifM v (keepM v z inn) = 1 := by
  have hzb : nodeB z = true := by simp [nodeB, hz]
  refine ⟨?_, vot_yes (keep_ris v z inn) h0, ?_⟩
  · unfold nextC
    rw [hv, hzb, Bool.and_self, if_pos rfl, if_neg hn, if_neg (by omega)]
  · unfold DifM
    rcases next_one (vot_ris (votB_iff.1 hv)) hz hn with ⟨h1, h2⟩ | ⟨h1, h2⟩
    · have := cnt_all (fun n hn => h1.subset hn)
      omega
    · have h3 := cnt_sublist h1
      have h4 : cnt v (keepM v z inn) ≤ (keepM v z inn).length := by
        have hR := vot_ris (votB_iff.1 hv)
        rw [cnt_comm hR (keep_ris v z inn)]
        exact cnt_le _ _
      omega
theorem ext_in {f : List Int} {ws : List (List Int)} {S : Int → Prop} {z : Int} (h : WayOk f ws S) (hz : 1 ≤ z ∧ z ≤ 7) (hn : ¬ S z) : WayOk f (extM true ws z) (fun m => m = z ∨ S m) := by
  obtain ⟨ws', l, rfl, h1, h2, h3, h4⟩ := h
  have hzl : z ∉ l := fun h => hn ((h2 z).1 h)
  have hzk : z ∈ keepM l z true := keep_mem.2 ⟨hz, by simp [keepP]⟩
  obtain ⟨e1, e2, e3⟩ := next_yes (inn := true) h1 hz (by simp [hzl]) (List.length_pos_of_mem hzk)
  have eg : extM true (ws' ++ [l]) z = ws' ++ [l] ++ [keepM l z true] := by
    unfold extM
    rw [List.getLastD_concat, e1]
  rw [eg]
  refine ⟨_, _, rfl, e2, fun n => ?_, chain_snoc h3 e2 e3, head_snoc h4⟩
  rw [keep_mem]
  have hl := (votB_iff.1 h1).2.2.1
  by_cases hnz : n = z
  · subst hnz
    simp [hz, keepP]
  · simp only [keepP, hnz, decide_false, Bool.false_and, Bool.not_false, Bool.true_and, Bool.false_or, decide_eq_true_eq, false_or, ← h2]
    exact ⟨fun h => h.2, fun h => ⟨hl n h, h⟩⟩
theorem ext_out {f : List Int} {ws : List (List Int)} {S : Int → Prop} {z : Int} (h : WayOk f ws S) (hn : S z) (hm : ∃ m, S m ∧ m ≠ z) : WayOk f (extM false ws z) (fun m => m ≠ z ∧ S m) := by
  obtain ⟨ws', l, rfl, h1, h2, h3, h4⟩ := h
  have hl := (votB_iff.1 h1).2.2.1
  have hzl : z ∈ l := (h2 z).2 hn
  have hz := hl z hzl
  obtain ⟨m, hm1, hm2⟩ := hm
  have hml : m ∈ l := (h2 m).2 hm1
  have hzk : m ∈ keepM l z false := keep_mem.2 ⟨hl m hml, by simp [keepP, hm2, hml]⟩
  obtain ⟨e1, e2, e3⟩ := next_yes (inn := false) h1 hz (by simp [hzl]) (List.length_pos_of_mem hzk)
  have eg : extM false (ws' ++ [l]) z = ws' ++ [l] ++ [keepM l z false] := by
    unfold extM
    rw [List.getLastD_concat, e1]
  rw [eg]
  refine ⟨_, _, rfl, e2, fun n => ?_, chain_snoc h3 e2 e3, head_snoc h4⟩
  rw [keep_mem]
  by_cases hnz : n = z
  · subst hnz
    simp [keepP]
  · simp only [keepP, hnz, decide_false, Bool.false_and, Bool.not_false, Bool.true_and, Bool.false_or, decide_eq_true_eq, ne_eq, not_false_eq_true, true_and, ← h2]
    exact ⟨fun h => h.2, fun h => ⟨hl n h, h⟩⟩
theorem ins_all {f : List Int} : ∀ (zs : List Int) (ws : List (List Int)) (S : Int → Prop), WayOk f ws S → (∀ z ∈ zs, 1 ≤ z ∧ z ≤ 7) → (∀ z ∈ zs, ¬ S z) → zs.Pairwise (· < ·) → WayOk f (extAll true ws zs) (fun m => m ∈ zs ∨ S m)
  | [], ws, S, h, _, _, _ => by
    obtain ⟨ws', l, h0, h1, h2, h3, h4⟩ := h
    exact ⟨ws', l, h0, h1, fun n => by rw [h2]; simp, h3, h4⟩
  | z :: zs, ws, S, h, hz, hs, hp => by
    have hp' := List.pairwise_cons.1 hp
    have h1 := ext_in h (hz z (by simp)) (hs z (by simp))
    have h2 := ins_all zs _ _ h1 (fun y hy => hz y (by simp [hy])) (fun y hy => by
      rintro (h | h)
      · have := hp'.1 y hy
        omega
      · exact hs y (by simp [hy]) h) hp'.2
    obtain ⟨ws', l, k0, k1, k2, k3, k4⟩ := h2
    refine ⟨ws', l, k0, k1, fun n => ?_, k3, k4⟩
    rw [k2]
    show (n ∈ zs ∨ n = z ∨ S n) ↔ (n ∈ z :: zs ∨ S n)
    rw [List.mem_cons]
    constructor
    · rintro (h | h | h)
      · exact .inl (.inr h)
      · exact .inl (.inl h)
      · exact .inr h
    · rintro ((h | h) | h)
      · exact .inr (.inl h)
      · exact .inl h
      · exact .inr (.inr h)
theorem outs_all {f : List Int} : ∀ (zs : List Int) (ws : List (List Int)) (S : Int → Prop), WayOk f ws S → (∀ z ∈ zs, S z) → (∃ m, S m ∧ m ∉ zs) → zs.Pairwise (· < ·) → WayOk f (extAll false ws zs) (fun m => m ∉ zs ∧ S m)
  | [], ws, S, h, _, _, _ => by
    obtain ⟨ws', l, h0, h1, h2, h3, h4⟩ := h
    exact ⟨ws', l, h0, h1, fun n => by rw [h2]; simp, h3, h4⟩
  | z :: zs, ws, S, h, hs, hm, hp => by
    have hp' := List.pairwise_cons.1 hp
    obtain ⟨m, hm1, hm2⟩ := hm
    rw [List.mem_cons, not_or] at hm2
    have h1 := ext_out h (hs z (by simp)) ⟨m, hm1, hm2.1⟩
    have h2 := outs_all zs _ _ h1 (fun y hy => ⟨by have := hp'.1 y hy; omega, hs y (by simp [hy])⟩) ⟨m, ⟨hm2.1, hm1⟩, hm2.2⟩ hp'.2
    obtain ⟨ws', l, k0, k1, k2, k3, k4⟩ := h2
    refine ⟨ws', l, k0, k1, fun n => ?_, k3, k4⟩
    rw [k2]
    show (n ∉ zs ∧ n ≠ z ∧ S n) ↔ (n ∉ z :: zs ∧ S n)
    rw [List.mem_cons, not_or]
    exact ⟨fun h => ⟨⟨h.2.1, h.1⟩, h.2.2⟩, fun h => ⟨h.1.2, h.1.1, h.2⟩⟩
/-- The theorem of the way. -/
theorem way_ok {f t : List Int} (hf : votB f = true) (ht : votB t = true) : ∃ ws', wayM f t = ws' ++ [t] ∧ ChainW (wayM f t) ∧ (wayM f t)[0]? = some f := by
  have hF := votB_iff.1 hf
  have hT := votB_iff.1 ht
  have h0 : WayOk f [f] (fun n => n ∈ f) := ⟨[], f, rfl, hf, fun n => Iff.rfl, fun i a b ha hb => by simp at hb, rfl⟩
  have h1 := ins_all (lack f t) [f] _ h0 (fun z hz => hT.2.2.1 z (lack_mem.1 hz).1) (fun z hz => (lack_mem.1 hz).2) (hT.2.2.2.sublist List.filter_sublist)
  have hne : ∃ m, m ∈ t := by
    cases t with
    | nil => exact absurd hT.1 (by simp)
    | cons m _ => exact ⟨m, by simp⟩
  obtain ⟨m, hm⟩ := hne
  have h2 := outs_all (lack t f) _ _ h1 (fun z hz => .inr (lack_mem.1 hz).1) ⟨m, by
    by_cases hmf : m ∈ f
    · exact .inr hmf
    · exact .inl (lack_mem.2 ⟨hm, hmf⟩), fun h => (lack_mem.1 h).2 hm⟩ (hF.2.2.2.sublist List.filter_sublist)
  obtain ⟨ws', l, k0, k1, k2, k3, k4⟩ := h2
  have hl : l = t := by
    refine rising_ext (votB_iff.1 k1).2.2.2 hT.2.2.2 fun n => ?_
    rw [k2]
    constructor
    · rintro ⟨h, h' | h'⟩
      · exact (lack_mem.1 h').1
      · by_cases hn : n ∈ t
        · exact hn
        · exact absurd (lack_mem.2 ⟨h', hn⟩) h
    · intro hn
      refine ⟨fun h => (lack_mem.1 h).2 hn, ?_⟩
      by_cases hmf : n ∈ f
      · exact .inr hmf
      · exact .inl (lack_mem.2 ⟨hn, hmf⟩)
  subst hl
  exact ⟨ws', k0, k3, k4⟩
theorem way_len {f t : List Int} (hf : votB f = true) (ht : votB t = true) : ((wayM f t).length : Int) = 1 + DifM f t := by
  have hF := vot_ris (votB_iff.1 hf)
  have hT := vot_ris (votB_iff.1 ht)
  unfold wayM DifM
  rw [extAll_len, extAll_len]
  have h1 := lack_cnt f t
  have h2 := lack_cnt t f
  have h3 := cnt_comm hF hT
  simp only [List.length_cons, List.length_nil]
  omega
theorem way_few {f t : List Int} (hf : votB f = true) (ht : votB t = true) : (wayM f t).length ≤ 15 := by
  have hF := votB_iff.1 hf
  have hT := votB_iff.1 ht
  unfold wayM
  rw [extAll_len, extAll_len]
  have h1 := lack_len f t
  have h2 := lack_len t f
  have := hF.2.1
  have := hT.2.1
  simp only [List.length_cons, List.length_nil]
  omega
theorem way_each {f t : List Int} (hf : votB f = true) (ht : votB t = true) {i : Nat} {l : List Int} (h : (wayM f t)[i]? = some l) : votB l = true := by
  obtain ⟨ws', h1, h2, h3⟩ := way_ok hf ht
  cases i with
  | zero =>
    rw [h3] at h
    cases h
    exact hf
  | succ i =>
    have hl := (List.getElem?_eq_some_iff.1 h).1
    exact (h2 i (wayM f t)[i] l (List.getElem?_eq_getElem (by omega)) h).1
end QuorumMath

