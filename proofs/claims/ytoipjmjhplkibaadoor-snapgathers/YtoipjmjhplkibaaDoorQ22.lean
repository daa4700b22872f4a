import Derived.Test.YtoipjmjhplkibaaDoorQ21
import Derived.Sort.Walk0
import Derived.BigQuiet
import Derived.Laws.Cover1
/- Files in a row of one's own; the contracts of the document's own Read, put and out. -/
namespace Go.Proofs.YtoipjmjhplkibaaDoor
open Go.RowKit DiskMath
set_option maxRecDepth 100000
set_option linter.unusedSimpArgs false

/-- Files as cells. -/
def fcells : Files → List Value → List Value
  | f :: fs, sv :: cs => .string f.name :: sv :: .int .i64 (f.safe : Int) :: fcells fs cs
  | _, _ => []
theorem fcells_append (y : File) (u : Value) : ∀ (fs : Files) (cs : List Value), cs.length = fs.length → fcells (fs ++ [y]) (cs ++ [u]) = fcells fs cs ++ [.string y.name, u, .int .i64 (y.safe : Int)]
  | [], [], _ => rfl
  | x :: fs, sv :: cs, h => by
    simp only [List.cons_append, fcells]
    rw [fcells_append y u fs cs (by simpa using h)]
  | [], _ :: _, h => by simp at h
  | _ :: _, [], h => by simp at h
theorem fcells_get : ∀ (fs : Files) (cs : List Value) (i : Nat) (x : File) (sv : Value), fs[i]? = some x → cs[i]? = some sv → (fcells fs cs)[3 * i]? = some (.string x.name) ∧ (fcells fs cs)[3 * i + 1]? = some sv ∧ (fcells fs cs)[3 * i + 2]? = some (.int .i64 (x.safe : Int))
  | [], _, i, x, sv, h, _ => by simp at h
  | _ :: _, [], i, x, sv, _, h => by simp at h
  | y :: fs, u :: cs, 0, x, sv, h, h' => by
    simp only [List.getElem?_cons_zero, Option.some.injEq] at h h'
    subst h h'
    exact ⟨rfl, rfl, rfl⟩
  | y :: fs, u :: cs, i + 1, x, sv, h, h' => by
    obtain ⟨h1, h2, h3⟩ := fcells_get fs cs i x sv (by simpa using h) (by simpa using h')
    refine ⟨?_, ?_, ?_⟩
    · rw [show 3 * (i + 1) = 3 * i + 1 + 1 + 1 by omega]
      simpa [fcells] using h1
    · rw [show 3 * (i + 1) + 1 = 3 * i + 1 + 1 + 1 + 1 by omega]
      simpa [fcells] using h2
    · rw [show 3 * (i + 1) + 2 = 3 * i + 2 + 1 + 1 + 1 by omega]
      simpa [fcells] using h3

/-- A file as a value. -/
def fval (f : File) (sv : Value) : Value := .agg #[.string f.name, sv, .int .i64 (f.safe : Int)]

end Go.Proofs.YtoipjmjhplkibaaDoor

/- The contract of the document's own put: files with one more, or another one, in its place. -/
namespace Go.Proofs.YtoipjmjhplkibaaDoor
open Go.RowKit DiskMath
set_option maxRecDepth 100000
set_option linter.unusedSimpArgs false

theorem less_of {a b : ByteArray} (h : strOrd.lt a b) : Op.bytesLess a.toList b.toList = true := by
  rw [bytesLess_eq]
  exact decide_eq_true h
theorem not_less_of {a b : ByteArray} (h : ¬ strOrd.lt a b) : Op.bytesLess a.toList b.toList = false := by
  rw [bytesLess_eq]
  exact decide_eq_false h
theorem drop_at {fs : Files} {i : Nat} (h : i < fs.length) : fs.drop i = fs[i] :: fs.drop (i + 1) := List.drop_eq_getElem_cons h

theorem putFrom_true (f g : File) (l : Files) : putFrom strOrd f (g :: l) true = (if g.name = f.name then [] else [g]) ++ putFrom strOrd f l true := by
  simp only [putFrom, Bool.true_or]
  simp
theorem putFrom_lt (f g : File) (l : Files) (h : strOrd.lt g.name f.name) : putFrom strOrd f (g :: l) false = [g] ++ putFrom strOrd f l false := by
  have hne : ¬ g.name = f.name := fun e => strOrd.irr f.name (by rw [e] at h; exact h)
  simp only [putFrom, Bool.false_or]
  simp [h, hne]
theorem putFrom_ge (f g : File) (l : Files) (h : ¬ strOrd.lt g.name f.name) : putFrom strOrd f (g :: l) false = [f] ++ ((if g.name = f.name then [] else [g]) ++ putFrom strOrd f l true) := by
  simp only [putFrom, Bool.false_or]
  simp [h]

end Go.Proofs.YtoipjmjhplkibaaDoor

