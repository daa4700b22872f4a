import Derived.Test.YtlgnnfhnkfjafaaProg
import Derived.WalkKit
import Derived.ArgAppend
import Derived.Below
import Derived.Laws.AppendOwnNone
import Derived.OwnWalk
import Derived.Deep.LoopGhost
import Derived.Deep.QuietTactic
import Derived.Deep.RegionHeld3
import Derived.WalkSmall
import Derived.BigQuiet
import Derived.Laws.IdiomStrings
import Derived.Laws.Cover1
import Derived.Sort.Walk0
/- Rows of one's own, of any element: what append makes of one, and that its row is the old one, or new. -/
namespace Go.Proofs.Ytlgnnfhnkfjafaa
open Go.RowKit
set_option maxRecDepth 100000
set_option linter.unusedSimpArgs false
set_option linter.unusedVariables false

theorem cells_of_block {w : World} {b : Nat} {cs : Array Value} {t : TypeId} (h : w.heap[b]? = some (.cells cs t (0, 0))) (i : Nat) : w.cell? ⟨b, i, none⟩ = cs[i]? := by
  simp [World.cell?, h]
theorem frozen_of {w : World} {q : Nat} {cs : Array Value} {t : TypeId} (h : w.heap[q]? = some (.cells cs t (0, 0))) (i : Nat) : w.frozen? ⟨q, i, none⟩ = false := by
  simp [World.frozen?, h]

theorem run_append_own2 (w : World) (base : Nat) (t ty e : TypeId) (i : TypeInfo) (z : Value) (size bytes : Nat) (ht : Try.prog.underlying t = some (.slice e)) (hi : Try.prog.info? e = some i) (hz : i.zero = some z)
    (hsize : i.size = size) (hby : i.bytes = bytes) (hzs : z.cells.size = size) (hsz : 0 < size) (v : Value) (n : Nat) (xs : List Value) (hown : w.ownsRow base e size v n xs)
    (a : Addr) (m c : Nat) (news : List Value) (hl : news.length = m * size) (hnews : ∀ j u, news[j]? = some u → w.cell? (a.add j) = some u) (h1 : ∀ u ∈ news, u.oneCell' = true)
    (h63 : n + m ≤ maxLen) (hbytes : (n + m) * bytes ≤ 140737488355328) (hbase : base ≤ w.heap.size) :
    ∃ v' w', (Builtin.append_ #[t, t] ty #[v, .slice (some a) m c]).run Try.prog w = .ok v' w' ∧ w'.ownsRow base e size v' (n + m) (xs ++ news) ∧ w.grownBy w' v.ownBlock ∧ ∀ k, v'.ownBlock = some k → v.ownBlock = some k ∨ w.heap.size ≤ k := by
  obtain ⟨v', w', hrun, hown', hg, _⟩ := run_append_own (P := Try.prog) w base t ty e i z size bytes ht hi hz hsize hby hzs hsz v n xs hown a m c news hl hnews h1 h63 hbytes hbase
  refine ⟨v', w', hrun, hown', hg, fun k hk => ?_⟩
  obtain ⟨hxl, ⟨rfl, rfl⟩ | ⟨g, cp, cur, rfl, hgg, hbk, hle, hcm, hcs, htk⟩⟩ := hown
  · obtain ⟨v2, w2, hrun2, hown2, _⟩ := run_append_own (P := Try.prog) w w.heap.size t ty e i z size bytes ht hi hz hsize hby hzs hsz (.slice none 0 0) 0 [] (World.ownsRow_nil w _ _ size) a m c news hl hnews h1 h63 hbytes (Nat.le_refl _)
    cases hrun.symm.trans hrun2
    exact .inr (World.ownsRow.lt hown2 k hk).1
  · by_cases hroom : n + m ≤ cp
    · have hrun2 := run_append_room_cells (P := Try.prog) w t ty e i ht hi g 0 n cp a m c news (by rw [hsize]; exact hl) hnews h1 hroom
        (fun j hj => by
          rw [hsize, cells_of_block hbk, Array.getElem?_eq_getElem (by
            rw [hcs]
            have : (n + m) * size ≤ cp * size := Nat.mul_le_mul_right _ hroom
            rw [Nat.add_mul] at this
            omega)]
          rfl)
        (fun j _ => by simp [World.frozen?, hbk])
      cases hrun.symm.trans hrun2
      exact .inl hk
    · obtain ⟨v2, w2, hrun2, hown2, _⟩ := run_append_arg_grows (P := Try.prog) w t ty e i z size bytes ht hi hz hsize hby hzs hsz ⟨g, 0, none⟩ n cp xs hxl
        (fun j u hj => by
          rw [Addr.add_lit, cells_of_block hbk, Nat.zero_add]
          rw [← htk, List.getElem?_take] at hj
          split at hj
          · simpa using hj
          · cases hj)
        a m c news hl hnews (by omega) h63 hbytes
      cases hrun.symm.trans hrun2
      exact .inr (World.ownsRow.lt hown2 k hk).1

/-- How an element lies in cells. -/
structure El (α : Type) where
  enc : α → List Value
  k : Nat
  len : ∀ x, (enc x).length = k
  one : ∀ x, ∀ u ∈ enc x, u.oneCell' = true
  pos : 0 < k

/-- Elements as cells. -/
def El.flat {α : Type} (E : El α) (xs : List α) : List Value := xs.flatMap E.enc
theorem El.flat_cons {α : Type} (E : El α) (x : α) (xs : List α) : E.flat (x :: xs) = E.enc x ++ E.flat xs := by simp [El.flat]
theorem El.flat_append {α : Type} (E : El α) (xs ys : List α) : E.flat (xs ++ ys) = E.flat xs ++ E.flat ys := by simp [El.flat]
theorem El.flat_length {α : Type} (E : El α) : ∀ xs : List α, (E.flat xs).length = xs.length * E.k
  | [] => by simp [El.flat]
  | x :: xs => by rw [El.flat_cons, List.length_append, El.flat_length E xs, E.len, List.length_cons, Nat.add_mul]; omega
theorem El.flat_mem {α : Type} (E : El α) {xs : List α} : ∀ u ∈ E.flat xs, u.oneCell' = true := by
  intro u hu
  obtain ⟨x, _, hx⟩ := List.mem_flatMap.1 hu
  exact E.one x u hx
theorem El.flat_get {α : Type} (E : El α) : ∀ (xs : List α) (i : Nat) (x : α) (j : Nat), xs[i]? = some x → j < E.k → (E.flat xs)[i * E.k + j]? = (E.enc x)[j]?
  | [], i, x, j, h, _ => by simp at h
  | y :: xs, 0, x, j, h, hj => by
    simp only [List.getElem?_cons_zero, Option.some.injEq] at h
    subst h
    rw [El.flat_cons, Nat.zero_mul, Nat.zero_add, List.getElem?_append_left (by rw [E.len]; exact hj)]
  | y :: xs, i + 1, x, j, h, hj => by
    have h1 := El.flat_get E xs i x j (by simpa using h) hj
    rw [El.flat_cons, Nat.add_mul, Nat.one_mul, List.getElem?_append_right (by rw [E.len]; omega), E.len, ← h1]
    congr 1
    omega
/-- A row of one's own. -/
def Rk {α : Type} (E : El α) (w : World) (t : TypeId) (v : Value) (xs : List α) : Prop := w.ownsRow 0 t E.k v xs.length (E.flat xs)

theorem Rk.shape {α : Type} {E : El α} {w : World} {t : TypeId} {v : Value} {xs : List α} (h : Rk E w t v xs) : ∃ ao cap, v = .slice ao xs.length cap ∧ xs.length ≤ cap ∧ cap ≤ maxLen ∧ (ao = none → xs = []) := by
  obtain ⟨_, ⟨r1, r2⟩ | ⟨g, cp, _, r1, _, _, r2, r3, _⟩⟩ := h
  · exact ⟨none, 0, by rw [r1, r2], by omega, Nat.zero_le _, fun _ => List.eq_nil_of_length_eq_zero r2⟩
  · exact ⟨_, _, r1, r2, r3, fun h => by cases h⟩
theorem Rk.nil {α : Type} (E : El α) (w : World) (t : TypeId) : Rk E w t (.slice none 0 0) [] := World.ownsRow_nil w 0 t E.k
theorem Rk.cells {α : Type} {E : El α} {w : World} {t : TypeId} {v : Value} {xs : List α} (h : Rk E w t v xs) (hne : 0 < xs.length) : ∃ g cap cur, v = .slice (some ⟨g, 0, none⟩) xs.length cap ∧ xs.length ≤ cap ∧ cap ≤ maxLen ∧ w.heap[g]? = some (.cells cur t (0, 0)) ∧ cur.size = cap * E.k ∧ cur.toList.take (xs.length * E.k) = E.flat xs ∧ (∀ i x j, xs[i]? = some x → j < E.k → w.cell? ⟨g, i * E.k + j, none⟩ = (E.enc x)[j]?) ∧ ∀ i, w.frozen? ⟨g, i, none⟩ = false := by
  obtain ⟨_, ⟨_, r2⟩ | ⟨g, cp, cur, r1, _, hbk, hle, hm, hcs, ht⟩⟩ := id h
  · omega
  · refine ⟨g, cp, cur, r1, hle, hm, hbk, hcs, ht, fun i x j hx hj => ?_, fun i => frozen_of hbk i⟩
    have hi := (List.getElem?_eq_some_iff.1 hx).1
    rw [cells_of_block hbk, ← El.flat_get E xs i x j hx hj, ← ht, List.getElem?_take_of_lt (by
      have : (i + 1) * E.k ≤ xs.length * E.k := Nat.mul_le_mul_right _ hi
      rw [Nat.add_mul] at this
      omega)]
    simp
theorem Rk.same {α : Type} {E : El α} {w w' : World} {t : TypeId} {v : Value} {xs : List α} (h : Rk E w t v xs) (hs : ∀ k, v.ownBlock = some k → w'.heap[k]? = w.heap[k]?) : Rk E w' t v xs := by
  obtain ⟨h0, h1 | ⟨g, cap, cur, e1, hg, hbk, r⟩⟩ := h
  · exact ⟨h0, .inl h1⟩
  · exact ⟨h0, .inr ⟨g, cap, cur, e1, hg, (hs g (by rw [e1]; rfl)).trans hbk, r⟩⟩
theorem Rk.lt {α : Type} {E : El α} {w : World} {t : TypeId} {v : Value} {xs : List α} (h : Rk E w t v xs) {k : Nat} (hk : v.ownBlock = some k) : k < w.heap.size := (World.ownsRow.lt h k hk).2
theorem Rk.block {α : Type} {E : El α} {w : World} {t : TypeId} {v : Value} {xs : List α} (h : Rk E w t v xs) {k : Nat} (hk : v.ownBlock = some k) : ∃ cs, w.heap[k]? = some (.cells cs t (0, 0)) := by
  obtain ⟨_, ⟨r1, _⟩ | ⟨g, cp, cur, r1, _, hbk, _⟩⟩ := h
  · rw [r1] at hk; cases hk
  · rw [r1] at hk
    obtain rfl : g = k := by simpa [Value.ownBlock] using hk
    exact ⟨cur, hbk⟩
end Go.Proofs.Ytlgnnfhnkfjafaa

