
/- Plain mathematics of ranges of keys (stage 10): lists in form are known by the keys that they have; one more, one less, by the program and by cutting at all places. -/
namespace SpanMath
set_option linter.unusedSimpArgs false
set_option linter.unusedVariables false

abbrev K := List UInt8
/-- A span: from, to. -/
abbrev Sp := K × K
def kmax (a b : K) : K := if a < b then b else a
def kmin (a b : K) : K := if b < a then b else a
/-- A key more, in its place. -/
def ins : List K → K → List K
  | [], s => [s]
  | x :: l, s => if x < s then x :: ins l s else if x = s then x :: l else s :: x :: l
theorem ins_mem (s : K) : ∀ (l : List K) (k : K), k ∈ ins l s ↔ k = s ∨ k ∈ l
  | [], k => by simp [ins]
  | x :: l, k => by
    unfold ins
    split
    · rw [List.mem_cons, ins_mem s l k, List.mem_cons]; grind
    · split
      · rename_i h; subst h; simp
      · simp
end SpanMath

