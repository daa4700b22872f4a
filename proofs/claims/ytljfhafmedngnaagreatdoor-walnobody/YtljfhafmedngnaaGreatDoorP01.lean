import Derived.Test.YtljfhafmedngnaaGreatDoorProg
import Derived.WalkKit
import Derived.OwnWalk
import Derived.Deep.LoopGhost
import Derived.WalkSmall
import Derived.Laws.IdiomStrings
import Derived.Below
import Derived.Lib.SlBytesConst
/- The contract of the document's own Number: a segment's number, by its name. -/
namespace Go.Proofs.YtljfhafmedngnaaGreatDoor
open Go.RowKit
set_option maxRecDepth 100000
set_option linter.unusedSimpArgs false
set_option linter.unusedVariables false

/-- A digit's byte. -/
def digit (c : Nat) : Bool := decide (48 ≤ c ∧ c ≤ 57)
/-- The number of digits, behind n. -/
def numOf : Nat → List UInt8 → Nat
  | n, [] => n
  | n, c :: l => if digit c.toNat then numOf (n * 10 + (c.toNat - 48)) l else 0
/-- A segment's number, by its name; 0: it is none. -/
def segNum (s : ByteArray) : Nat := if s.size = 12 ∧ (s.extract 0 4).toList = [119, 97, 108, 45] then numOf 0 (s.data.toList.drop 4) else 0

set_option maxHeartbeats 1000000 in
theorem number_of (s : ByteArray) (w : World) : Calls Tryz.prog 51 #[.string s] w fun e w' => e = .returned (.int .i64 (segNum s : Int)) ∧ w' = w := by
  obtain ⟨R, HR⟩ : ∃ R, Hid (R = segNum s) := ⟨_, rfl⟩
  rw [← HR.out]
  by_cases h12 : s.size = 12
  · by_cases h4 : (s.extract 0 4).toList = [119, 97, 108, 45]
    · have E0 : Hid (R = numOf 0 (s.data.toList.drop 4)) := by show _ = _; rw [HR.out]; unfold segNum; rw [if_pos ⟨h12, h4⟩]
      have hi : (s.size : Int) = 12 := by omega
      have hi2 : ((s.size : Int) == 12) = true := by simp [hi]
      have h4' : ((s.extract 0 4).toList == [119, 97, 108, 45]) = true := by rw [h4]; rfl
      clear HR
      go_enter Tryz.func51, Tryz.ntmps51
      go_wp2
      go_loopg [3, 4] 8 (fun g s3 s4 wr => ∃ i n : Nat, i + g = 12 ∧ 4 ≤ i ∧ s4 = .int .i64 (i : Int) ∧ s3 = .int .i64 (n : Int) ∧ n + 1 ≤ 10 ^ (i - 4) ∧ Hid (R = numOf n (s.data.toList.drop i)) ∧ wr = w)
      case atStart => exact ⟨4, 0, by simp, Nat.le_refl _, rfl, rfl, by simp, E0, rfl⟩
      case round =>
        obtain ⟨i, n, hig, h4i, rfl, rfl, hn, E, rfl⟩ := hrel
        have hn8 : n ≤ 100000000 := by
          have : 10 ^ (i - 4) ≤ 10 ^ 8 := Nat.pow_le_pow_right (by omega) (by omega)
          omega
        by_cases hlt : i < 12
        · have hlti : (i : Int) < 12 := by omega
          have hls : i < s.size := by omega
          have hlsi : (i : Int) < (s.size : Int) := by omega
          have hsz : s.data.toList.length = s.size := rfl
          have hd : s.data.toList.drop i = s[i] :: s.data.toList.drop (i + 1) := by
            rw [List.drop_eq_getElem_cons (by omega)]
            rfl
          rw [hd] at E
          obtain ⟨c, hcv⟩ : ∃ c : Nat, s[i].toNat = c := ⟨_, rfl⟩
          have hE1 : digit c = true → Hid (R = numOf (n * 10 + (c - 48)) (s.data.toList.drop (i + 1))) := fun h => by show _ = _; rw [E.out, numOf, hcv, if_pos h]
          have hE2 : digit c = false → Hid (R = 0) := fun h => by show _ = _; rw [E.out, numOf, hcv, if_neg (by rw [h]; simp)]
          have hpow : 10 ^ (i + 1 - 4) = 10 ^ (i - 4) * 10 := by rw [show i + 1 - 4 = (i - 4) + 1 by omega, Nat.pow_succ]
          clear hd E hsz
          by_cases h48 : 48 ≤ c
          · have k1 : ¬ (c : Int) < 48 := by omega
            by_cases h57 : c ≤ 57
            · have k2 : ¬ (57 : Int) < (c : Int) := by omega
              have E1 := hE1 (by unfold digit; simp; omega)
              have hn' : n * 10 + (c - 48) + 1 ≤ 10 ^ (i + 1 - 4) := by rw [hpow]; omega
              have q1 : IntKind.u8.wrap ((c : Int) - 48) = ((c - 48 : Nat) : Int) := by
                rw [Int.ofNat_sub h48]
                exact IntWalk.u8_in _ (by omega)
              clear hE1 hE2
              go_wp2
              go_roundg (gk - 1)
              case measure => omega
              case rel => exact ⟨i + 1, n * 10 + (c - 48), by omega, by omega, by go_num, by go_num, hn', E1, rfl⟩
            · have k2 : (57 : Int) < (c : Int) := by omega
              have E1 := hE2 (by unfold digit; simp; omega)
              clear hE1 hE2
              go_wp2
              go_ret
              exact ⟨by rw [E1.out]; rfl, rfl⟩
          · have k1 : (c : Int) < 48 := by omega
            have E1 := hE2 (by unfold digit; simp; omega)
            clear hE1 hE2
            go_wp2
            go_ret
            exact ⟨by rw [E1.out]; rfl, rfl⟩
        · obtain rfl : i = 12 := by omega
          have E1 : Hid (R = n) := by
            show _ = _
            rw [E.out, List.drop_eq_nil_of_le (by rw [show s.data.toList.length = s.size from rfl]; omega)]
            rfl
          clear E
          go_wp2
          go_ret
          exact ⟨by rw [E1.out]; rfl, rfl⟩
    · have E : Hid (R = 0) := by show _ = _; rw [HR.out]; unfold segNum; rw [if_neg (fun h => h4 h.2)]
      have hi : (s.size : Int) = 12 := by omega
      have hi2 : ((s.size : Int) == 12) = true := by simp [hi]
      have h4' : ((s.extract 0 4).toList == [119, 97, 108, 45]) = false := by simpa using h4
      clear HR
      go_enter Tryz.func51, Tryz.ntmps51
      go_wp2
      go_ret
      exact ⟨by rw [E.out]; rfl, rfl⟩
  · have E : Hid (R = 0) := by show _ = _; rw [HR.out]; unfold segNum; rw [if_neg (fun h => h12 h.1)]
    have hi : ¬ (s.size : Int) = 12 := by omega
    have hi2 : ((s.size : Int) == 12) = false := by simpa using hi
    clear HR
    go_enter Tryz.func51, Tryz.ntmps51
    go_wp2
    go_ret
    exact ⟨by rw [E.out]; rfl, rfl⟩
end Go.Proofs.YtljfhafmedngnaaGreatDoor

/- A segment's name, by its number: the bytes behind each round of the document's own Name. -/
namespace Go.Proofs.YtljfhafmedngnaaGreatDoor
open Go.RowKit
set_option maxRecDepth 100000
set_option linter.unusedSimpArgs false
set_option linter.unusedVariables false

/-- The last k digits of a number, as bytes. -/
def digs : Nat → Nat → List Nat
  | 0, _ => []
  | k + 1, n => (48 + n / 10 ^ k % 10) :: digs k n
/-- What stands there behind k rounds. -/
def nameL (k n : Nat) : List Nat := [119, 97, 108, 45] ++ List.replicate (8 - k) 48 ++ digs k n
/-- A segment's name. -/
def segName (n : Nat) : ByteArray := ⟨((nameL 8 n).map UInt8.ofNat).toArray⟩
def bcells (l : List Nat) : Array Value := (l.map fun (c : Nat) => Value.int .u8 (c : Int)).toArray

theorem name_step (n : Nat) : ∀ k, k < 8 → (nameL k n).set (11 - k) (48 + n / 10 ^ k % 10) = nameL (k + 1) n
  | 0, _ => rfl
  | 1, _ => rfl
  | 2, _ => rfl
  | 3, _ => rfl
  | 4, _ => rfl
  | 5, _ => rfl
  | 6, _ => rfl
  | 7, _ => rfl
  | k + 8, h => by omega
theorem digs_lt : ∀ k n, ∀ c ∈ digs k n, c < 256
  | 0, n, c, h => by cases h
  | k + 1, n, c, h => by
    rcases List.mem_cons.1 h with rfl | h
    · omega
    · exact digs_lt k n c h
theorem digs_length : ∀ k n, (digs k n).length = k
  | 0, _ => rfl
  | k + 1, n => by simp [digs, digs_length k n]
theorem nameL_length {k n : Nat} (h : k ≤ 8) : (nameL k n).length = 12 := by
  simp [nameL, digs_length]
  omega

theorem cells_marked {w : World} {g : Nat} {l : List Nat} {t : TypeId} {m : Nat × Nat} (h : w.heap[g]? = some (.cells (bcells l) t m)) {i c : Nat} (hc : l[i]? = some c) : w.cell? ⟨g, i, none⟩ = some (.int .u8 (c : Int)) := by
  unfold World.cell?
  dsimp only
  rw [h]
  simp [bcells, hc]
theorem set_marked {w : World} {g : Nat} {l : List Nat} {t : TypeId} {m : Nat × Nat} (h : w.heap[g]? = some (.cells (bcells l) t m)) (i c : Nat) : (w.setCell ⟨g, i, none⟩ (.int .u8 (c : Int))).heap[g]? = some (.cells (bcells (l.set i c)) t m) := by
  simp [World.setCell, Array.getElem?_modify, h, bcells, List.map_set]
end Go.Proofs.YtljfhafmedngnaaGreatDoor

/- Plain mathematics of files by rising names (stage 5): lists that rise are known by what they hold; one more, one less, a crash. Names are of any type with an order. -/
namespace DiskMath

/-- A file: its name, its bytes, how many of them are safe. -/
structure Fl (α : Type) where
  name : α
  data : List Nat
  safe : Nat

/-- An order of names: which is below which. -/
structure Ord (α : Type) where
  lt : α → α → Prop
  dec : ∀ a b, Decidable (lt a b)
  irr : ∀ a, ¬ lt a a
  tr : ∀ a b c, lt a b → lt b c → lt a c
  tot : ∀ a b, lt a b ∨ a = b ∨ lt b a

variable {α : Type}

/-- Names rise. -/
def Rises (O : Ord α) : List (Fl α) → Prop
  | [] => True
  | f :: l => (∀ g ∈ l, O.lt f.name g.name) ∧ Rises O l

theorem Rises.tail {O : Ord α} {f : Fl α} {l : List (Fl α)} (h : Rises O (f :: l)) : Rises O l := h.2
/-- How many bytes a crash leaves: the safe ones, and as many more as the cut says. -/
def left (f : Fl α) (cut : Option Int) : Nat :=
  match cut with
  | none => f.safe
  | some c => f.safe + min c.toNat (f.data.length - f.safe)
def crashOne (f : Fl α) (cut : Option Int) : Fl α := ⟨f.name, f.data.take (left f cut), left f cut⟩
/-- A crash. -/
def crash : List (Fl α) → List Int → List (Fl α)
  | [], _ => []
  | f :: l, cuts => crashOne f cuts.head? :: crash l cuts.tail

theorem left_bounds (f : Fl α) (cut : Option Int) (h : f.safe ≤ f.data.length) : f.safe ≤ left f cut ∧ left f cut ≤ f.data.length := by
  unfold left
  split
  · exact ⟨Nat.le_refl _, h⟩
  · omega
theorem crash_length : ∀ (l : List (Fl α)) (cuts : List Int), (crash l cuts).length = l.length
  | [], _ => rfl
  | f :: l, cuts => by simp [crash, crash_length l cuts.tail]
theorem crash_get? : ∀ (l : List (Fl α)) (cuts : List Int) (i : Nat), (crash l cuts)[i]? = l[i]?.map fun f => crashOne f cuts[i]?
  | [], _, i => by simp [crash]
  | f :: l, cuts, 0 => by cases cuts <;> simp [crash]
  | f :: l, cuts, i + 1 => by
    have := crash_get? l cuts.tail i
    simp only [crash, List.getElem?_cons_succ]
    rw [this]
    cases cuts <;> simp
theorem crash_names : ∀ (l : List (Fl α)) (cuts : List Int), (crash l cuts).map (·.name) = l.map (·.name)
  | [], _ => rfl
  | f :: l, cuts => by simp [crash, crashOne, crash_names l cuts.tail]
theorem rises_names {O : Ord α} : ∀ {l k : List (Fl α)}, l.map (·.name) = k.map (·.name) → Rises O l → Rises O k
  | [], [], _, _ => trivial
  | [], _ :: _, h, _ => by simp at h
  | _ :: _, [], h, _ => by simp at h
  | f :: l, g :: k, h, hr => by
    simp only [List.map_cons, List.cons.injEq] at h
    refine ⟨fun x hx => ?_, rises_names h.2 hr.2⟩
    have : x.name ∈ l.map (·.name) := by rw [h.2]; exact List.mem_map_of_mem hx
    obtain ⟨y, hy, e⟩ := List.mem_map.1 this
    rw [← h.1, ← e]
    exact hr.1 y hy
theorem crash_rises {O : Ord α} {l : List (Fl α)} (cuts : List Int) (h : Rises O l) : Rises O (crash l cuts) := rises_names (crash_names l cuts).symm h

/-- What may be: no name twice, sizes, and the safe bytes are there. -/
def Sound (O : Ord α) (may : α → Prop) (l : List (Fl α)) : Prop := Rises O l ∧ l.length ≤ 64 ∧ ∀ f ∈ l, may f.name ∧ f.data.length ≤ 65536 ∧ f.safe ≤ f.data.length

variable [DecidableEq α]

/-- The file of a name, in a list. -/
def get (l : List (Fl α)) (n : α) : Option (Fl α) := l.find? fun f => decide (f.name = n)
theorem get_nil (n : α) : get ([] : List (Fl α)) n = none := rfl
theorem get_cons (f : Fl α) (l : List (Fl α)) (n : α) : get (f :: l) n = if f.name = n then some f else get l n := by
  unfold get
  rw [List.find?_cons]
  by_cases h : f.name = n <;> simp [h]
theorem get_name {l : List (Fl α)} {n : α} {f : Fl α} (h : get l n = some f) : f.name = n := by
  unfold get at h
  have := List.find?_some h
  simpa using this
theorem get_mem {l : List (Fl α)} {n : α} {f : Fl α} (h : get l n = some f) : f ∈ l := List.mem_of_find?_eq_some h
theorem get_none {l : List (Fl α)} {n : α} : get l n = none ↔ ∀ f ∈ l, f.name ≠ n := by
  unfold get
  rw [List.find?_eq_none]
  simp

theorem Rises.get_of_mem {O : Ord α} : ∀ {l : List (Fl α)} {f : Fl α}, Rises O l → f ∈ l → get l f.name = some f
  | [], f, _, h => by cases h
  | g :: l, f, hr, h => by
    rw [get_cons]
    rcases List.mem_cons.1 h with rfl | h
    · simp
    · have hlt := hr.1 f h
      rw [if_neg (fun e => O.irr f.name (by rw [e] at hlt; exact hlt))]
      exact Rises.get_of_mem hr.2 h

/-- Lists that rise and hold the same are the same. -/
theorem rises_ext {O : Ord α} : ∀ {l k : List (Fl α)}, Rises O l → Rises O k → (∀ n, get l n = get k n) → l = k
  | [], [], _, _, _ => rfl
  | [], g :: k, _, _, h => by
    have := h g.name
    rw [get_nil, get_cons, if_pos rfl] at this
    cases this
  | f :: l, [], _, _, h => by
    have := h f.name
    rw [get_nil, get_cons, if_pos rfl] at this
    cases this
  | f :: l, g :: k, hl, hk, h => by
    have hfg : f.name = g.name := by
      rcases O.tot f.name g.name with hlt | he | hlt
      · have := h f.name
        rw [get_cons, if_pos rfl, get_cons, if_neg (fun e => O.irr f.name (by rw [e] at hlt; exact hlt))] at this
        have hm := get_mem this.symm
        exact absurd (O.tr _ _ _ hlt (hk.1 f hm)) (O.irr _)
      · exact he
      · have := h g.name
        rw [get_cons, if_neg (fun e => O.irr g.name (by rw [e] at hlt; exact hlt)), get_cons, if_pos rfl] at this
        have hm := get_mem this
        exact absurd (O.tr _ _ _ hlt (hl.1 g hm)) (O.irr _)
    have he : f = g := by
      have := h f.name
      rw [get_cons, if_pos rfl, get_cons, if_pos hfg.symm] at this
      exact Option.some.inj this
    subst he
    congr 1
    refine rises_ext hl.2 hk.2 fun n => ?_
    have := h n
    rw [get_cons, get_cons] at this
    by_cases hn : f.name = n
    · have e1 : get l n = none := get_none.2 fun x hx e => by
        have := hl.1 x hx
        rw [e, ← hn] at this
        exact O.irr _ this
      have e2 : get k n = none := get_none.2 fun x hx e => by
        have := hk.1 x hx
        rw [e, ← hn] at this
        exact O.irr _ this
      rw [e1, e2]
    · rwa [if_neg hn, if_neg hn] at this

/-- Files with one more, or another one, in its place: as the document's own put goes over them. -/
def putFrom (O : Ord α) (f : Fl α) : List (Fl α) → Bool → List (Fl α)
  | [], done => if done then [] else [f]
  | g :: l, done =>
    haveI := O.dec g.name f.name
    (if done = false ∧ ¬ O.lt g.name f.name then [f] else []) ++ ((if g.name = f.name then [] else [g]) ++ putFrom O f l (done || decide (¬ O.lt g.name f.name)))
def put (O : Ord α) (l : List (Fl α)) (f : Fl α) : List (Fl α) := putFrom O f l false

theorem putFrom_done (O : Ord α) (f : Fl α) : ∀ (l : List (Fl α)), putFrom O f l true = l.filter fun g => decide (g.name ≠ f.name)
  | [] => rfl
  | g :: l => by
    simp only [putFrom, Bool.true_or]
    rw [putFrom_done O f l]
    by_cases h : g.name = f.name <;> simp [h]

/-- Behind files that are all above a name nothing of that name stands. -/
theorem filter_above {O : Ord α} {f : Fl α} {l : List (Fl α)} (h : ∀ g ∈ l, O.lt f.name g.name) : (l.filter fun g => decide (g.name ≠ f.name)) = l := by
  rw [List.filter_eq_self]
  intro g hg
  have := h g hg
  simp only [ne_eq, decide_not, Bool.not_eq_eq_eq_not, Bool.not_true, decide_eq_false_iff_not]
  exact fun e => O.irr f.name (by rw [e] at this; exact this)

theorem put_mem {O : Ord α} {f : Fl α} : ∀ {l : List (Fl α)} {g : Fl α}, g ∈ put O l f → g = f ∨ (g ∈ l ∧ g.name ≠ f.name)
  | [], g, h => by
    simp [put, putFrom] at h
    exact .inl h
  | x :: l, g, h => by
    haveI := O.dec x.name f.name
    unfold put at h
    rw [putFrom] at h
    by_cases hlt : O.lt x.name f.name
    · have hne : x.name ≠ f.name := fun e => O.irr f.name (by rw [e] at hlt; exact hlt)
      simp only [hlt, not_true_eq_false, and_false, if_false, List.nil_append, decide_false, Bool.or_false] at h
      rw [if_neg hne] at h
      rcases List.mem_append.1 h with h | h
      · rw [List.mem_singleton.1 h]
        exact .inr ⟨List.mem_cons_self, hne⟩
      · rcases put_mem (l := l) h with h | h
        · exact .inl h
        · exact .inr ⟨List.mem_cons_of_mem _ h.1, h.2⟩
    · simp only [hlt, not_false_eq_true, and_self, if_true, decide_true, Bool.or_true] at h
      rw [putFrom_done] at h
      rcases List.mem_append.1 h with h | h
      · exact .inl (List.mem_singleton.1 h)
      · rcases List.mem_append.1 h with h | h
        · by_cases hne : x.name = f.name
          · rw [if_pos hne] at h
            cases h
          · rw [if_neg hne] at h
            rw [List.mem_singleton.1 h]
            exact .inr ⟨List.mem_cons_self, hne⟩
        · have := List.mem_filter.1 h
          exact .inr ⟨List.mem_cons_of_mem _ this.1, by simpa using this.2⟩

theorem put_rises {O : Ord α} {f : Fl α} : ∀ {l : List (Fl α)}, Rises O l → Rises O (put O l f)
  | [], _ => by simp [put, putFrom, Rises]
  | x :: l, hr => by
    haveI := O.dec x.name f.name
    unfold put
    rw [putFrom]
    by_cases hlt : O.lt x.name f.name
    · have hne : x.name ≠ f.name := fun e => O.irr f.name (by rw [e] at hlt; exact hlt)
      simp only [hlt, not_true_eq_false, and_false, if_false, List.nil_append, decide_false, Bool.or_false]
      rw [if_neg hne]
      refine ⟨fun g hg => ?_, put_rises hr.2⟩
      rcases put_mem (l := l) hg with rfl | h
      · exact hlt
      · exact hr.1 g h.1
    · simp only [hlt, not_false_eq_true, and_self, if_true, decide_true, Bool.or_true]
      rw [putFrom_done]
      have habove : ∀ g ∈ l, O.lt f.name g.name := fun g hg => by
        rcases O.tot x.name f.name with h | h | h
        · exact absurd h hlt
        · rw [← h]; exact hr.1 g hg
        · exact O.tr _ _ _ h (hr.1 g hg)
      rw [filter_above habove]
      by_cases hne : x.name = f.name
      · rw [if_pos hne]
        exact ⟨habove, hr.2⟩
      · rw [if_neg hne]
        have hfx : O.lt f.name x.name := by
          rcases O.tot x.name f.name with h | h | h
          · exact absurd h hlt
          · exact absurd h hne
          · exact h
        refine ⟨fun g hg => ?_, fun g hg => hr.1 g hg, hr.2⟩
        rcases List.mem_cons.1 hg with rfl | hg
        · exact hfx
        · exact habove g hg

theorem put_get {O : Ord α} {f : Fl α} (n : α) : ∀ {l : List (Fl α)}, Rises O l → get (put O l f) n = if f.name = n then some f else get l n
  | [], _ => by
    simp only [put, putFrom, Bool.false_eq_true, if_false]
    rw [get_cons]
  | x :: l, hr => by
    haveI := O.dec x.name f.name
    unfold put
    rw [putFrom]
    by_cases hlt : O.lt x.name f.name
    · have hne : x.name ≠ f.name := fun e => O.irr f.name (by rw [e] at hlt; exact hlt)
      simp only [hlt, not_true_eq_false, and_false, if_false, List.nil_append, decide_false, Bool.or_false]
      rw [if_neg hne]
      have ih := put_get n (f := f) hr.2
      unfold put at ih
      simp only [List.cons_append, List.nil_append]
      rw [get_cons, get_cons, ih]
      by_cases h1 : x.name = n
      · rw [if_pos h1, if_pos h1, if_neg (fun e => hne (h1.trans e.symm))]
      · rw [if_neg h1, if_neg h1]
    · simp only [hlt, not_false_eq_true, and_self, if_true, decide_true, Bool.or_true]
      rw [putFrom_done]
      have habove : ∀ g ∈ l, O.lt f.name g.name := fun g hg => by
        rcases O.tot x.name f.name with h | h | h
        · exact absurd h hlt
        · rw [← h]; exact hr.1 g hg
        · exact O.tr _ _ _ h (hr.1 g hg)
      rw [filter_above habove]
      simp only [List.cons_append, List.nil_append]
      rw [get_cons]
      by_cases h1 : f.name = n
      · rw [if_pos h1, if_pos h1]
      · rw [if_neg h1, if_neg h1, get_cons]
        by_cases hne : x.name = f.name
        · rw [if_pos hne, if_neg (fun e => h1 (hne.symm.trans e))]
          rfl
        · rw [if_neg hne]
          simp only [List.cons_append, List.nil_append]
          rw [get_cons]

/-- Files without one. -/
def out (l : List (Fl α)) (n : α) : List (Fl α) := l.filter fun f => decide (f.name ≠ n)
theorem out_rises {O : Ord α} {n : α} : ∀ {l : List (Fl α)}, Rises O l → Rises O (out l n)
  | [], _ => trivial
  | x :: l, hr => by
    unfold out
    rw [List.filter_cons]
    split
    · exact ⟨fun g hg => hr.1 g (List.mem_filter.1 hg).1, out_rises hr.2⟩
    · exact out_rises hr.2
theorem out_get (n m : α) : ∀ (l : List (Fl α)), get (out l n) m = if m = n then none else get l m
  | [] => by simp [out, get_nil]
  | x :: l => by
    have ih := out_get n m l
    unfold out at ih ⊢
    rw [List.filter_cons]
    by_cases hx : x.name = n
    · rw [if_neg (by simp [hx]), ih, get_cons]
      by_cases hm : m = n
      · rw [if_pos hm, if_pos hm]
      · rw [if_neg hm, if_neg hm, if_neg (fun e => hm (e.symm.trans hx))]
    · rw [if_pos (by simp [hx]), get_cons, get_cons, ih]
      by_cases hm : m = n
      · rw [if_pos hm, if_neg (fun e => hx (e.trans hm)), if_pos hm]
      · rw [if_neg hm, if_neg hm]
end DiskMath

