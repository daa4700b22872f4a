import Derived.Test.YtljfhafmedngnaaGreatDoorP01
import Derived.WalkKit
import Derived.Lib.ItoaNum
import Derived.Lib.ParseIntB
/- Plain mathematics of what is done with files (stage 5): append, sync, cut, rename, remove, by rising names; what may be stays so; what each leaves, name by name. -/
namespace DiskMath

/-- The order of names: the first byte that parts decides. -/
def strOrd : Ord ByteArray where
  lt a b := a.toList < b.toList
  dec a b := inferInstance
  irr a := List.lt_irrefl a.toList
  tr _ _ _ h k := List.lt_trans h k
  tot a b := by
    by_cases h : a.toList < b.toList
    · exact .inl h
    · by_cases k : b.toList < a.toList
      · exact .inr (.inr k)
      · refine .inr (.inl ?_)
        have e := List.le_antisymm (List.not_lt.1 k) (List.not_lt.1 h)
        rw [Go.ByteArray.toList_eq, Go.ByteArray.toList_eq] at e
        exact ByteArray.ext (Array.toList_inj.1 e)

/-- May a byte stand in a name? -/
def mayByte (c : Nat) : Bool := decide (97 ≤ c ∧ c ≤ 122) || decide (48 ≤ c ∧ c ≤ 57) || decide (c = 46) || decide (c = 45)
/-- May a name be? -/
def mayName (s : ByteArray) : Bool := decide (1 ≤ s.size) && decide (s.size ≤ 32) && s.data.toList.all fun c => mayByte c.toNat

abbrev File := Fl ByteArray
abbrev Files := List File
def SoundF (l : Files) : Prop := Sound strOrd (fun s => mayName s = true) l
def putF (l : Files) (f : File) : Files := put strOrd l f

theorem put_length {α : Type} [DecidableEq α] {O : Ord α} {f : Fl α} : ∀ {l : List (Fl α)}, Rises O l → (put O l f).length = if get l f.name = none then l.length + 1 else l.length
  | [], _ => by simp [put, putFrom, get_nil]
  | x :: l, hr => by
    haveI := O.dec x.name f.name
    unfold put
    rw [putFrom, get_cons]
    by_cases hlt : O.lt x.name f.name
    · have hne : x.name ≠ f.name := fun e => O.irr f.name (by rw [e] at hlt; exact hlt)
      simp only [hlt, not_true_eq_false, and_false, if_false, List.nil_append, decide_false, Bool.or_false]
      rw [if_neg hne, if_neg hne]
      have ih := put_length (f := f) hr.2
      unfold put at ih
      simp only [List.cons_append, List.nil_append, List.length_cons]
      rw [ih]
      split <;> rfl
    · simp only [hlt, not_false_eq_true, and_self, if_true, decide_true, Bool.or_true]
      rw [putFrom_done]
      have habove : ∀ g ∈ l, O.lt f.name g.name := fun g hg => by
        rcases O.tot x.name f.name with h | h | h
        · exact absurd h hlt
        · rw [← h]; exact hr.1 g hg
        · exact O.tr _ _ _ h (hr.1 g hg)
      rw [filter_above habove]
      by_cases hne : x.name = f.name
      · rw [if_pos hne, if_pos hne]
        simp
      · rw [if_neg hne, if_neg hne]
        have hn : get l f.name = none := get_none.2 fun g hg e => by
          have := habove g hg
          rw [e] at this
          exact O.irr _ this
        rw [if_pos hn]
        simp

theorem sound_put {l : Files} (h : SoundF l) {f : File} (hm : mayName f.name = true) (hd : f.data.length ≤ 65536) (hs : f.safe ≤ f.data.length) (hl : get l f.name = none → l.length < 64) : SoundF (putF l f) := by
  refine ⟨put_rises h.1, ?_, ?_⟩
  · unfold putF
    rw [put_length h.1]
    split
    · have := hl ‹_›; omega
    · exact h.2.1
  · intro g hg
    rcases put_mem hg with rfl | hg
    · exact ⟨hm, hd, hs⟩
    · exact h.2.2 g hg.1
theorem out_length {α : Type} [DecidableEq α] (l : List (Fl α)) (n : α) : (out l n).length ≤ l.length := List.length_filter_le _ _
theorem sound_out {l : Files} (h : SoundF l) (n : ByteArray) : SoundF (out l n) :=
  ⟨out_rises h.1, Nat.le_trans (out_length l n) h.2.1, fun g hg => h.2.2 g (List.mem_filter.1 hg).1⟩
theorem sound_crash {l : Files} (h : SoundF l) (cuts : List Int) : SoundF (crash l cuts) := by
  refine ⟨crash_rises cuts h.1, by rw [crash_length]; exact h.2.1, fun g hg => ?_⟩
  obtain ⟨i, hi⟩ := List.mem_iff_getElem?.1 hg
  rw [crash_get?] at hi
  obtain ⟨f, hf, rfl⟩ := Option.map_eq_some_iff.1 hi
  obtain ⟨h1, h2, h3⟩ := h.2.2 f (List.mem_of_getElem? hf)
  have := left_bounds f cuts[i]? h3
  refine ⟨h1, ?_, ?_⟩
  · show (f.data.take _).length ≤ _
    rw [List.length_take]; omega
  · show left f _ ≤ (f.data.take _).length
    rw [List.length_take]; omega

/-- What is done, and the error that is told (0: none; 1 ErrArg, 2 ErrFull, 4 ErrNone). -/
def dAppend (l : Files) (n : ByteArray) (b : List Nat) : Files × Nat :=
  if mayName n = false then (l, 1) else
  match get l n with
  | none => if 64 ≤ l.length ∨ 65536 < b.length then (l, 2) else (putF l ⟨n, b, 0⟩, 0)
  | some f => if 65536 < f.data.length + b.length then (l, 2) else (putF l ⟨n, f.data ++ b, f.safe⟩, 0)
def dSync (l : Files) (n : ByteArray) : Files × Nat :=
  match get l n with
  | none => (l, 4)
  | some f => (putF l ⟨n, f.data, f.data.length⟩, 0)
def dCut (l : Files) (n : ByteArray) (k : Int) : Files × Nat :=
  match get l n with
  | none => (l, 4)
  | some f => if k < 0 ∨ (f.data.length : Int) < k then (l, 1) else (putF l ⟨n, f.data.take k.toNat, min f.safe k.toNat⟩, 0)
def dRename (l : Files) (a b : ByteArray) : Files × Nat :=
  match get l a with
  | none => (l, 4)
  | some f => if mayName b = false then (l, 1) else (putF (out l a) ⟨b, f.data, f.safe⟩, 0)
def dRemove (l : Files) (n : ByteArray) : Files × Nat :=
  match get l n with
  | none => (l, 4)
  | some _ => (out l n, 0)

theorem sound_get {l : Files} (h : SoundF l) {n : ByteArray} {f : File} (hf : get l n = some f) : mayName n = true ∧ f.data.length ≤ 65536 ∧ f.safe ≤ f.data.length := by
  have := h.2.2 f (get_mem hf)
  rwa [get_name hf] at this

theorem sound_append {l : Files} (h : SoundF l) (n : ByteArray) (b : List Nat) : SoundF (dAppend l n b).1 := by
  unfold dAppend
  split
  · exact h
  · rename_i hm
    have hm' : mayName n = true := by simpa using hm
    split
    · split
      · exact h
      · exact sound_put h hm' (by show b.length ≤ _; omega) (Nat.zero_le _) (fun _ => by omega)
    · rename_i f hf
      have hg := sound_get h hf
      split
      · exact h
      · refine sound_put h hm' (by show (f.data ++ b).length ≤ _; rw [List.length_append]; omega) (by show f.safe ≤ (f.data ++ b).length; rw [List.length_append]; omega) (fun hn => ?_)
        exact absurd (hf.symm.trans hn) (by simp)
theorem sound_sync {l : Files} (h : SoundF l) (n : ByteArray) : SoundF (dSync l n).1 := by
  unfold dSync
  split
  · exact h
  · rename_i f hf
    have hg := sound_get h hf
    exact sound_put h hg.1 hg.2.1 (Nat.le_refl _) (fun hn => absurd (hf.symm.trans hn) (by simp))
theorem sound_cut {l : Files} (h : SoundF l) (n : ByteArray) (k : Int) : SoundF (dCut l n k).1 := by
  unfold dCut
  split
  · exact h
  · rename_i f hf
    have hg := sound_get h hf
    split
    · exact h
    · refine sound_put h hg.1 (by show (f.data.take _).length ≤ _; rw [List.length_take]; omega) (by show min _ _ ≤ (f.data.take _).length; rw [List.length_take]; omega) (fun hn => absurd (hf.symm.trans hn) (by simp))
theorem sound_rename {l : Files} (h : SoundF l) (a b : ByteArray) : SoundF (dRename l a b).1 := by
  unfold dRename
  split
  · exact h
  · rename_i f hf
    have hg := sound_get h hf
    split
    · exact h
    · rename_i hb
      refine sound_put (sound_out h a) (by simpa using hb) hg.2.1 hg.2.2 (fun _ => ?_)
      have hmem := get_mem hf
      have hlt : (out l a).length < l.length := by
        have hnm : f.name = a := get_name hf
        rcases Nat.lt_or_ge (out l a).length l.length with h | h
        · exact h
        · have he : out l a = l := List.Sublist.eq_of_length_le List.filter_sublist h
          rw [← he] at hmem
          have := (List.mem_filter.1 hmem).2
          simp [hnm] at this
      have := h.2.1
      omega
theorem sound_remove {l : Files} (h : SoundF l) (n : ByteArray) : SoundF (dRemove l n).1 := by
  unfold dRemove
  split
  · exact h
  · exact sound_out h n

/-- The theorem of syncing: behind a crash each file is a beginning of what it was, and what was safe is there. -/
theorem crash_safe {l : Files} (h : SoundF l) (cuts : List Int) (i : Nat) (a b : File) (ha : l[i]? = some a) (hb : (crash l cuts)[i]? = some b) :
    a.name = b.name ∧ a.safe ≤ b.data.length ∧ b.data.length ≤ a.data.length ∧ a.data.take b.data.length = b.data ∧ b.safe = b.data.length := by
  rw [crash_get?, ha] at hb
  have hb' : crashOne a cuts[i]? = b := by simpa using hb
  subst hb'
  obtain ⟨_, _, h3⟩ := h.2.2 a (List.mem_of_getElem? ha)
  have hl := left_bounds a cuts[i]? h3
  have hlen : (a.data.take (left a cuts[i]?)).length = left a cuts[i]? := by rw [List.length_take]; omega
  refine ⟨rfl, ?_, ?_, ?_, ?_⟩
  · show a.safe ≤ (a.data.take _).length
    omega
  · show (a.data.take _).length ≤ _
    omega
  · show a.data.take (a.data.take _).length = a.data.take _
    rw [hlen]
  · show left a _ = (a.data.take _).length
    omega
end DiskMath

/- Segments' names, in plain mathematics: their digits, their order, what the library makes and reads of them. -/
namespace Go.Proofs.YtljfhafmedngnaaGreatDoor
open Go.RowKit DiskMath
set_option maxRecDepth 100000

theorem digs_snoc : ∀ k n, digs (k + 1) n = digs k (n / 10) ++ [48 + n % 10]
  | 0, n => by simp [digs]
  | k + 1, n => by
    rw [digs, digs_snoc k n, digs]
    rw [show n / 10 ^ (k + 1) = n / 10 / 10 ^ k by rw [Nat.div_div_eq_div_mul, Nat.pow_succ, Nat.mul_comm]]
    rfl
theorem digs_range : ∀ k n, ∀ c ∈ digs k n, 48 ≤ c ∧ c ≤ 57
  | 0, n, c, h => by cases h
  | k + 1, n, c, h => by
    rcases List.mem_cons.1 h with rfl | h
    · omega
    · exact digs_range k n c h

theorem dec_digs : ∀ k n, n < 10 ^ k → Lib.decDigits (10 ^ k + n) = 49 :: (digs k n).map UInt8.ofNat
  | 0, n, h => by
    obtain rfl : n = 0 := by simp at h; exact h
    rw [Lib.decDigits]
    rfl
  | k + 1, n, h => by
    have hp : 0 < 10 ^ k := Nat.pow_pos (by decide)
    rw [Nat.pow_succ] at h
    have e1 : (10 ^ (k + 1) + n) / 10 = 10 ^ k + n / 10 := by rw [Nat.pow_succ]; omega
    have e2 : (10 ^ (k + 1) + n) % 10 = n % 10 := by rw [Nat.pow_succ]; omega
    rw [Lib.decDigits, dif_neg (by rw [Nat.pow_succ]; omega), e1, e2, dec_digs k (n / 10) (by omega), digs_snoc, List.map_append]
    rfl

theorem parse_digs (M : Nat) (hM : M ≤ 4294967295) : ∀ k acc n, acc * 10 ^ k + n % 10 ^ k ≤ M → Lib.parseUintM M acc ((digs k n).map UInt8.ofNat) = .ok (acc * 10 ^ k + n % 10 ^ k)
  | 0, acc, n, h => by simp [digs, Lib.parseUintM, Nat.mod_one]
  | k + 1, acc, n, h => by
    have hp : 0 < 10 ^ k := Nat.pow_pos (by decide)
    have hd : n / 10 ^ k % 10 < 10 := Nat.mod_lt _ (by decide)
    have e : acc * 10 ^ (k + 1) + n % 10 ^ (k + 1) = (acc * 10 + n / 10 ^ k % 10) * 10 ^ k + n % 10 ^ k := by
      rw [Nat.pow_succ, Nat.mod_mul, Nat.add_mul, Nat.mul_assoc, Nat.mul_comm 10 (10 ^ k), Nat.mul_comm (n / 10 ^ k % 10) (10 ^ k)]
      omega
    rw [e] at h ⊢
    have hacc : acc * 10 + n / 10 ^ k % 10 ≤ M := by
      have := Nat.le_mul_of_pos_right (acc * 10 + n / 10 ^ k % 10) hp
      omega
    have hc : (UInt8.ofNat (48 + n / 10 ^ k % 10)).toNat = 48 + n / 10 ^ k % 10 := by
      rw [UInt8.toNat_ofNat', Nat.mod_eq_of_lt (by omega)]
    rw [digs, List.map_cons, Lib.parseUintM, hc, if_pos (by omega), if_neg (by omega), if_neg (by omega), show 48 + n / 10 ^ k % 10 - 48 = n / 10 ^ k % 10 by omega]
    exact parse_digs M hM k _ n h

theorem segName_list (n : Nat) : (segName n).data.toList = [119, 97, 108, 45] ++ (digs 8 n).map UInt8.ofNat := by
  simp [segName, nameL]
theorem segName_size (n : Nat) : (segName n).size = 12 := by
  show (segName n).data.size = 12
  rw [← Array.length_toList, segName_list]
  simp [digs_length]

/-- By number is by name. -/
theorem digs_order : ∀ k a b, a % 10 ^ k < b % 10 ^ k → (digs k a).map UInt8.ofNat < (digs k b).map UInt8.ofNat
  | 0, a, b, h => by simp [Nat.mod_one] at h
  | k + 1, a, b, h => by
    rw [Nat.pow_succ, Nat.mod_mul, Nat.mod_mul] at h
    have hp : 0 < 10 ^ k := Nat.pow_pos (by decide)
    have ha : a / 10 ^ k % 10 < 10 := Nat.mod_lt _ (by decide)
    have hb : b / 10 ^ k % 10 < 10 := Nat.mod_lt _ (by decide)
    have ha' := Nat.mod_lt a hp
    have hb' := Nat.mod_lt b hp
    rw [digs, digs, List.map_cons, List.map_cons, List.cons_lt_cons_iff]
    have hle : a / 10 ^ k % 10 ≤ b / 10 ^ k % 10 := by
      rcases Nat.lt_or_ge (b / 10 ^ k % 10) (a / 10 ^ k % 10) with hlt | hge
      · have := Nat.mul_le_mul_left (10 ^ k) (show b / 10 ^ k % 10 + 1 ≤ a / 10 ^ k % 10 from hlt)
        rw [Nat.mul_add] at this
        omega
      · exact hge
    rcases Nat.lt_or_ge (a / 10 ^ k % 10) (b / 10 ^ k % 10) with hlt | hge
    · left
      have hx : ∀ x, x < 10 → (UInt8.ofNat (48 + x)).toNat = 48 + x := fun x hx => by rw [UInt8.toNat_ofNat', Nat.mod_eq_of_lt (by omega)]
      rw [UInt8.lt_iff_toNat_lt, hx _ ha, hx _ hb]
      omega
    · have e : a / 10 ^ k % 10 = b / 10 ^ k % 10 := by omega
      right
      rw [e] at h ⊢
      exact ⟨rfl, digs_order k a b (by omega)⟩

theorem segName_lt {a b : Nat} (h : a < b) (hb : b < 100000000) : strOrd.lt (segName a) (segName b) := by
  show (segName a).toList < (segName b).toList
  rw [ByteArray.toList_eq, ByteArray.toList_eq, segName_list, segName_list]
  have := digs_order 8 a b (by rw [Nat.mod_eq_of_lt (by omega), Nat.mod_eq_of_lt (by omega)]; exact h)
  generalize (digs 8 a).map UInt8.ofNat = A at *
  generalize (digs 8 b).map UInt8.ofNat = B at *
  simp only [List.cons_append, List.nil_append, List.cons_lt_cons_iff]
  simp [this]
theorem segName_inj {a b : Nat} (ha : a < 100000000) (hb : b < 100000000) (h : segName a = segName b) : a = b := by
  rcases Nat.lt_trichotomy a b with h1 | h1 | h1
  · have := segName_lt h1 hb
    rw [h] at this
    exact absurd this (strOrd.irr _)
  · exact h1
  · have := segName_lt h1 ha
    rw [h] at this
    exact absurd this (strOrd.irr _)
theorem segName_may (n : Nat) : mayName (segName n) = true := by
  unfold mayName
  rw [segName_size, segName_list]
  simp only [List.all_append, List.all_map, Bool.and_eq_true, List.all_eq_true]
  refine ⟨by decide, by decide, fun c hc => ?_⟩
  have := digs_range 8 n c hc
  simp only [Function.comp, UInt8.toNat_ofNat']
  rw [Nat.mod_eq_of_lt (by omega)]
  unfold mayByte
  simp
  omega
end Go.Proofs.YtljfhafmedngnaaGreatDoor

