/- The contract of Text over any chain of faults whose text is no longer than a builder can hold: the text, and that what lay in memory before stays as it was. -/
import Derived.Test.YtgffbicdfclcmaaDoorInner
import Derived.Test.YtgffbicdfclcmaaDoorBuild
import Derived.Test.YtgffbicdfclcmaaDoorErr
namespace Go.Proofs.YtgffbicdfclcmaaDoor
open Go.RowKit
set_option maxRecDepth 100000
set_option linter.unusedSimpArgs false

/-- The text of what is left of a chain; 'fst': nothing has been written yet. -/
def restB (fst : Bool) : List (ByteArray × Int) → Option Int → List UInt8
  | [], none => []
  | [], some n => (if fst then [] else [58, 32]) ++ codeText n
  | c :: r, t => (if fst then [] else [58, 32]) ++ (c.1.data.toList ++ ([32, 40] ++ (codeText c.2 ++ ([41] ++ restB false r t))))

theorem ie_app (x : List UInt8) (y : UInt8) (z : List UInt8) : (x ++ y :: z).isEmpty = false := by cases x <;> rfl
theorem bytes_len (s : ByteArray) : s.data.toList.length = s.size := by simp

theorem restB_cons_len (fst : Bool) (c : ByteArray × Int) (r : List (ByteArray × Int)) (t : Option Int) :
    (restB fst (c :: r) t).length = (if fst then 0 else 2) + (c.1.size + (2 + ((codeText c.2).length + (1 + (restB false r t).length)))) := by
  rw [restB]
  simp only [List.length_append, List.length_cons, List.length_nil, bytes_len]
  cases fst <;> simp

theorem outermost_base {l : List (ByteArray × Int)} {t : Option Int} {v : Value} (w W : World) (hg : Door w) (h : IsErr w v l t) (hb : Below w.heap.size w W) :
    Calls Tryd.prog 26 #[v] W fun e W' => ∃ pv, e = .returned pv ∧ FAt w pv l t ∧ Below W.heap.size W W' := by
  cases l with
  | nil =>
    obtain ⟨_, rfl⟩ | ⟨m, _, rfl⟩ := h.ends
    · exact (outermost_nil W).mono fun e w' ⟨he, hb⟩ => ⟨_, he, rfl, hb⟩
    · exact (outermost_code m W (hg.below hb)).mono fun e w' ⟨he, hb⟩ => ⟨_, he, rfl, hb⟩
  | cons c r =>
    obtain ⟨b, inner, rfl, h2, h3⟩ := h
    exact (outermost_fault b W (hg.below hb)).mono fun e w' ⟨he, hb⟩ => ⟨_, he, ⟨b, inner, rfl, h2, h3⟩, hb⟩

theorem builder_below {B b : Nat} {bs : List Value} {w w' : World} (h : Lib.IsBuilder 60 5 B b bs w) (hb : Below w.heap.size w w') : Lib.IsBuilder 60 5 B b bs w' := by
  have hg : w.grownBy w' none := ⟨hb.os, hb.tape, hb.output, hb.size, fun k hk _ => hb.block k hk⟩
  have key : ∀ {p : Value}, Lib.BuilderAt 60 5 B b p bs w → Lib.BuilderAt 60 5 B b p bs w' := fun h => by
    have hlt := h.lt
    obtain ⟨hB, v, h1, h2, h3⟩ := h
    exact ⟨hB, v, (hb.block b hlt).trans h1, h2.kept hg (by simp; exact Classical.em _), h3⟩
  rcases h with h | h
  · exact .inl (key h)
  · exact .inr (key h)

/-- The builder of a call that began in w holds acc; what lay in w lies as it lay. -/
def St (w : World) (acc : List UInt8) (W : World) : Prop := Lib.IsBuilder 60 5 w.heap.size w.heap.size (Lib.byteCells acc) W ∧ Below w.heap.size w W

theorem St.step {w W W' : World} {acc : List UInt8} (h : St w acc W) (hb : Below W.heap.size W W') : St w acc W' := ⟨builder_below h.1 hb, h.2.trans (hb.mono h.2.size)⟩

theorem St.write {w W : World} {acc : List UInt8} (h : St w acc W) (s : ByteArray) (hlen : acc.length + s.size ≤ 140737488355328) :
    Calls Tryd.prog 29 #[.pointer (some ⟨w.heap.size, 0, none⟩), .string s] W fun e W' => e = .returned (.tuple #[.int .i64 s.size, .nilIface]) ∧ St w (acc ++ s.data.toList) W' := by
  refine (writeString_of w.heap.size w.heap.size _ s W h.1 (by rw [Lib.byteCells_length]; exact hlen) h.2.size).mono ?_
  rintro e W' ⟨rfl, hB, hb⟩
  refine ⟨rfl, .inr ?_, h.2.trans hb⟩
  have : Lib.byteCells (acc ++ s.data.toList) = Lib.byteCells acc ++ Lib.strCells s := by simp [Lib.byteCells, Lib.strCells]
  rw [this]; exact hB

theorem St.len {w W : World} {acc : List UInt8} (h : St w acc W) :
    Calls Tryd.prog 28 #[.pointer (some ⟨w.heap.size, 0, none⟩)] W fun e W' => e = .returned (.int .i64 acc.length) ∧ W' = W := by
  have := len_of w.heap.size w.heap.size _ W h.1
  rwa [Lib.byteCells_length] at this

theorem St.new (w : World) : St w [] (w.alloc (.cells #[.pointer none, .slice none 0 0] 60)) :=
  ⟨Lib.fresh_isBuilder 60 5 w, (Below.refl _ _).alloc (Nat.le_refl _) _⟩

set_option maxHeartbeats 2000000 in
theorem text_of (l : List (ByteArray × Int)) (t : Option Int) (v : Value) (w : World) (hg : Door w) (h : IsErr w v l t) (hne : l ≠ [] ∨ t ≠ none)
    (hcs : ∀ c ∈ l, c.2 ≤ 9223372036854775807) (ht : ∀ n, t = some n → n ≤ 9223372036854775807) (hlen : (restB true l t).length ≤ 140737488355328) :
    Calls Tryd.prog 12 #[v] w fun e w' => e = .returned (.string ⟨(restB true l t).toArray⟩) ∧ Below w.heap.size w w' := by
  have hS0 := St.new w
  have h1 := trim_of _ (h.below hS0.2)
  have h2 := outermost_base w _ hg h hS0.2
  go_enter Tryd.func12, Tryd.ntmps12
  go_wp2_with (first | (go_at_call 27; refine h1.mono ?_; rintro e wq ⟨rfl, hwq⟩; subst hwq) | (go_at_call 26; refine h2.mono ?_; rintro e w' ⟨pv, rfl, hF, hb⟩))
  have hS1 := hS0.step hb
  clear h1 h2 hS0 hb
  go_loopg [4] l.length (fun k s4 wr => ∃ (l' : List (ByteArray × Int)) (acc : List UInt8), k = l'.length ∧ FAt w s4 l' t ∧ St w acc wr ∧ (∀ c ∈ l', c.2 ≤ 9223372036854775807) ∧ Aside (restB true l t = acc ++ restB acc.isEmpty l' t))
  case atStart => exact ⟨l, [], rfl, hF, hS1, hcs, rfl⟩
  case round =>
    clear hF hS1 hcs
    obtain ⟨l', acc, rfl, hF, hS, hcs, A⟩ := hrel
    have hA := congrArg List.length A.out
    cases l' with
    | nil =>
      obtain rfl := hF
      have hi := innermost_of l t v wr (hg.below hS.2) (h.below hS.2)
      obtain hT | ⟨n, hT⟩ : t = none ∨ ∃ n, t = some n := by cases t with
        | none => exact .inl rfl
        | some n => exact .inr ⟨n, rfl⟩
      · have e1 : restB true l t = acc := by rw [A.out, hT]; simp [restB]
        have e2 : acc ≠ [] := by
          intro e
          rw [e, hT] at e1
          cases l with
          | nil => exact hne.elim (fun h => h rfl) (fun h => h hT)
          | cons c r => simp [restB] at e1
        rw [hT] at hi
        dsimp only [Option.getD, Option.isSome] at hi
        have E : Hid (restB true l t = acc) := e1
        clear A hA e1 hne ht h hg hT hcs
        go_wp2_with (go_at_call 31; refine hi.mono ?_; rintro e w1 ⟨rfl, hb1⟩)
        have hS2 := hS.step hb1
        refine (string_some _ _ acc _ hS2.1 e2).mono ?_
        rintro e w2 ⟨rfl, hb2⟩
        clear hi
        go_wp2
        go_ret
        exact ⟨by rw [E.out]; rfl, hS2.2.trans hb2⟩
      · have hn := ht n hT
        have hnl := codeText_length n hn
        have e1 : restB true l t = acc ++ ((if acc.isEmpty then [] else [58, 32]) ++ codeText n) := by rw [A.out, hT]; rfl
        have hal : acc.length ≤ 140737488355328 - 28 ∨ True := .inr trivial
        have hA1 : acc.length + ((if acc.isEmpty then 0 else 2) + (codeText n).length) ≤ 140737488355328 := by
          rw [e1] at hlen
          simp only [List.length_append] at hlen
          split <;> simp_all
        rw [hT] at hi
        dsimp only [Option.getD, Option.isSome] at hi
        have E : Hid (restB true l t = acc ++ ((if acc.isEmpty then [] else [58, 32]) ++ codeText n)) := e1
        clear A hA e1 hne ht h hg hT hcs hlen hal
        by_cases he : acc = []
        · subst he
          simp only [List.isEmpty_nil, if_true, List.length_nil] at hA1
          go_wp2_with (go_at_call 31; refine hi.mono ?_; rintro e w1 ⟨rfl, hb1⟩)
          have hS2 := hS.step hb1
          refine hS2.len.mono ?_
          rintro e wx ⟨rfl, hwx⟩
          subst hwx
          clear hi
          go_wp2_with (go_at_call 30; refine (error_of n _ hn).mono ?_; rintro e wx ⟨rfl, hwx⟩; subst hwx)
          refine (hS2.write ⟨(codeText n).toArray⟩ (by show _ + (codeText n).length ≤ _; simp only [List.length_nil]; omega)).mono ?_
          rintro e w2 ⟨rfl, hS3⟩
          go_wp2_with fail
          refine (string_some _ _ _ _ hS3.1 (by simp [codeText])).mono ?_
          rintro e w3 ⟨rfl, hb3⟩
          go_wp2
          go_ret
          exact ⟨by rw [E.out]; simp, hS3.2.trans hb3⟩
        · have hpos : 0 < acc.length := List.length_pos_iff.2 he
          have hie : acc.isEmpty = false := by simpa using he
          rw [hie] at hA1
          simp only [Bool.false_eq_true, if_false] at hA1
          have E2 : Hid (restB true l t = acc ++ 58 :: 32 :: codeText n) := by show _ = _; rw [E.out, hie]; simp
          clear E hie he
          go_wp2_with (go_at_call 31; refine hi.mono ?_; rintro e w1 ⟨rfl, hb1⟩)
          have hS2 := hS.step hb1
          refine hS2.len.mono ?_
          rintro e wx ⟨rfl, hwx⟩
          subst hwx
          clear hi
          go_wp2_with fail
          refine (hS2.write ⟨#[58, 32]⟩ (by show _ + 2 ≤ _; omega)).mono ?_
          rintro e w2 ⟨rfl, hS3⟩
          go_wp2_with (go_at_call 30; refine (error_of n _ hn).mono ?_; rintro e wx ⟨rfl, hwx⟩; subst hwx)
          refine (hS3.write ⟨(codeText n).toArray⟩ (by show _ + (codeText n).length ≤ _; simp only [List.length_append, List.length_cons, List.length_nil]; omega)).mono ?_
          rintro e w3 ⟨rfl, hS4⟩
          go_wp2_with fail
          refine (string_some _ _ _ _ hS4.1 (by simp)).mono ?_
          rintro e w4 ⟨rfl, hb4⟩
          go_wp2
          go_ret
          exact ⟨by rw [E2.out]; rfl, hS4.2.trans hb4⟩
    | cons c r =>
      obtain ⟨b, inner, rfl, hbl, h3⟩ := hF
      have hc := hcs c (by simp)
      have hlt : b < w.heap.size := (Array.getElem?_eq_some_iff.1 hbl).1
      have cell : ∀ {acc' : List UInt8} {W : World}, St w acc' W → ∀ i, W.cell? ⟨b, i, none⟩ = (#[Value.string c.1, .int .i64 c.2, inner, .bool true] : Array Value)[i]? := fun hW i => cells_of_block ((hW.2.block b hlt).trans hbl) i
      have hcr : ∀ c' ∈ r, c'.2 ≤ 9223372036854775807 := fun c' h' => hcs c' (List.mem_cons_of_mem _ h')
      by_cases he : acc = []
      · subst he
        rw [List.length_append, restB_cons_len] at hA
        simp only [List.isEmpty_nil, if_true, List.length_nil] at hA
        rw [hA] at hlen
        clear hA
        have d0 : wr.cell? ⟨b, 0, none⟩ = some (.string c.1) := by rw [cell hS]; rfl
        go_wp2_with (go_at_call 28; refine hS.len.mono ?_; rintro e w1 ⟨rfl, hw1⟩; subst hw1)
        refine (hS.write c.1 (by simp only [List.length_nil]; omega)).mono ?_
        rintro e W1 ⟨rfl, hS1⟩
        go_wp2_with fail
        refine (hS1.write ⟨#[32, 40]⟩ (by show _ + 2 ≤ _; simp only [List.length_append, bytes_len, List.length_cons, List.length_nil]; omega)).mono ?_
        rintro e W2 ⟨rfl, hS2⟩
        have d1 : W2.cell? ⟨b, 1, none⟩ = some (.int .i64 c.2) := by rw [cell hS2]; rfl
        go_wp2_with (go_at_call 30; refine (error_of c.2 _ hc).mono ?_; rintro e wx ⟨rfl, hwx⟩; subst hwx)
        refine (hS2.write ⟨(codeText c.2).toArray⟩ (by show _ + (codeText c.2).length ≤ _; simp only [List.length_append, bytes_len, List.length_cons, List.length_nil]; omega)).mono ?_
        rintro e W3 ⟨rfl, hS3⟩
        go_wp2_with fail
        refine (hS3.write ⟨#[41]⟩ (by show _ + 1 ≤ _; simp only [List.length_append, bytes_len, List.length_cons, List.length_nil]; omega)).mono ?_
        rintro e W4 ⟨rfl, hS4⟩
        have d2 : W4.cell? ⟨b, 2, none⟩ = some inner := by rw [cell hS4]; rfl
        have ho := outermost_base w W4 hg h3 hS4.2
        go_wp2_with (go_at_call 26; refine ho.mono ?_; rintro e W5 ⟨pv', rfl, hF', hb5⟩)
        go_roundg r.length
        case measure => simp
        case rel => exact ⟨r, _, rfl, hF', hS4.step hb5, hcr, by show _ = _; rw [A.out]; simp [restB, ie_app]⟩
      · have hpos : 0 < acc.length := List.length_pos_iff.2 he
        have hie : acc.isEmpty = false := by simpa using he
        rw [List.length_append, restB_cons_len, hie] at hA
        simp only [Bool.false_eq_true, if_false] at hA
        rw [hA] at hlen
        clear hA
        go_wp2_with (go_at_call 28; refine hS.len.mono ?_; rintro e w1 ⟨rfl, hw1⟩; subst hw1)
        refine (hS.write ⟨#[58, 32]⟩ (by show _ + 2 ≤ _; omega)).mono ?_
        rintro e W0 ⟨rfl, hS0⟩
        have d0 : W0.cell? ⟨b, 0, none⟩ = some (.string c.1) := by rw [cell hS0]; rfl
        go_wp2_with fail
        refine (hS0.write c.1 (by simp only [List.length_append, List.length_cons, List.length_nil]; omega)).mono ?_
        rintro e W1 ⟨rfl, hS1⟩
        go_wp2_with fail
        refine (hS1.write ⟨#[32, 40]⟩ (by show _ + 2 ≤ _; simp only [List.length_append, bytes_len, List.length_cons, List.length_nil]; omega)).mono ?_
        rintro e W2 ⟨rfl, hS2⟩
        have d1 : W2.cell? ⟨b, 1, none⟩ = some (.int .i64 c.2) := by rw [cell hS2]; rfl
        go_wp2_with (go_at_call 30; refine (error_of c.2 _ hc).mono ?_; rintro e wx ⟨rfl, hwx⟩; subst hwx)
        refine (hS2.write ⟨(codeText c.2).toArray⟩ (by show _ + (codeText c.2).length ≤ _; simp only [List.length_append, bytes_len, List.length_cons, List.length_nil]; omega)).mono ?_
        rintro e W3 ⟨rfl, hS3⟩
        go_wp2_with fail
        refine (hS3.write ⟨#[41]⟩ (by show _ + 1 ≤ _; simp only [List.length_append, bytes_len, List.length_cons, List.length_nil]; omega)).mono ?_
        rintro e W4 ⟨rfl, hS4⟩
        have d2 : W4.cell? ⟨b, 2, none⟩ = some inner := by rw [cell hS4]; rfl
        have ho := outermost_base w W4 hg h3 hS4.2
        go_wp2_with (go_at_call 26; refine ho.mono ?_; rintro e W5 ⟨pv', rfl, hF', hb5⟩)
        go_roundg r.length
        case measure => simp
        case rel => exact ⟨r, _, rfl, hF', hS4.step hb5, hcr, by show _ = _; rw [A.out]; simp [restB, hie, ie_app]⟩
end Go.Proofs.YtgffbicdfclcmaaDoor
