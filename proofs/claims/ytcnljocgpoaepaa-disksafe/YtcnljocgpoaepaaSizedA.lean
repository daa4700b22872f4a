/- Acts that came in are within the form's reach: so are their bytes. -/
import Derived.Test.YtcnljocgpoaepaaHeavy
import Derived.SizedLaws
namespace Go.Proofs.Ytcnljocgpoaepaa
open Go.ChangeShapes Go.WideShapes Go.RowKit DiskMath
set_option maxRecDepth 100000
set_option linter.unusedSimpArgs false

theorem weights_all {H : Type} {t : TypeId} {d : DataW H} {n : Nat} (hn : n ∈ d.weights Try.prog t) : ∀ {l : List (DataW H)}, d ∈ l → n ∈ DataW.weightsAll Try.prog t l
  | [], h => by cases h
  | x :: l, h => by
    simp only [DataW.weightsAll, List.mem_append]
    rcases List.mem_cons.1 h with rfl | h
    · exact .inl hn
    · exact .inr (weights_all hn h)
theorem byte_bytes : Try.prog.bytesOf 5 = 1 := by kernel_rfl

theorem acts_sized {H : Type} {ts : List TypeId} {ds : List (DataW H)} {j : Nat} {el sp e1 s1 : List (DataW H)} {d0 d1 d2 d4 d5 : DataW H} (h : (DataW.weightsEach Try.prog ts ds).all (· ≤ reachBytes) = true) (ht : ts[j]? = some 23) (hd : ds[j]? = some (.slice el sp)) (hm : DataW.agg [d0, d1, d2, .slice e1 s1, d4, d5] ∈ el) : e1.length ≤ 140737488355328 := by
  have h0 : (e1.length + s1.length) * Try.prog.bytesOf 5 ∈ (DataW.slice e1 s1 : DataW H).weights Try.prog 33 := by simp [DataW.weights, Try.underlying33]
  have h1 : (e1.length + s1.length) * Try.prog.bytesOf 5 ∈ (DataW.agg [d0, d1, d2, .slice e1 s1, d4, d5] : DataW H).weights Try.prog 36 := by
    simp only [DataW.weights, Try.underlying36]
    exact DataW.weights_mem_each (j := 3) rfl rfl _ h0
  have h2 := weights_all h1 hm
  have h3 : (e1.length + s1.length) * Try.prog.bytesOf 5 ∈ (DataW.slice el sp : DataW H).weights Try.prog 23 := by
    simp only [DataW.weights, Try.underlying23]
    exact List.mem_cons_of_mem _ (List.mem_append_left _ h2)
  have := List.all_eq_true.1 h _ (DataW.weights_mem_each ht hd _ h3)
  rw [byte_bytes] at this
  unfold reachBytes at this
  simp at this
  omega
end Go.Proofs.Ytcnljocgpoaepaa
