import Derived.Test.YtfpbgfmnjpamlaaGreatHu42
import Derived.Test.YtfpbgfmnjpamlaaGreatHu48
import Derived.Test.YtfpbgfmnjpamlaaGreatHu49
import Derived.Test.YtfpbgfmnjpamlaaGreatHu19
import Derived.Test.YtfpbgfmnjpamlaaGreatHu35
/- The document's Prepare: its mathematics, what its calls tell. -/
namespace Go.Proofs.YtfpbgfmnjpamlaaGreat
open Go.RowKit LeaseMath
set_option maxRecDepth 100000
set_option linter.unusedSimpArgs false
set_option linter.unusedVariables false

def RPrepT (m : Tb × Int) (e : Ending) (w' : World) : Prop := ∃ z : Tz, e = .returned (.tuple #[tv z, .int .i64 m.2]) ∧ z.t = m.1 ∧ TbR w' z
theorem RPrepT.mk {w : World} {z : Tz} {t : Tb} {c : Int} {m : Tb × Int} (h : m = (t, c)) (hz : z.t = t) (hT : TbR w z) : RPrepT m (.returned (.tuple #[tv z, .int .i64 c])) w := ⟨z, by rw [h], by rw [h]; exact hz, hT⟩
theorem noZ_r (w : World) : TbR w noZ := ⟨Rd.nil _ _, Rd.nil _ _, Rd.nil _ _, Rd.nil _ _, Rd.nil _ _⟩
theorem push_ky {w : World} {v : Value} {xs : List K} (x : K) (h : Rk kyE w 9 v xs) (hlen : xs.length ≤ 10000000000) :
  ∀ ty, ∃ v' w', (Builtin.append_ #[31, 31] ty #[v, .slice (some ⟨w.heap.size, 0, none⟩) 1 1]).run Tryz.prog (w.alloc (.cells #[.string (bk x)] 9)) = .ok v' w' ∧ PushT kyE 9 w v (xs ++ [x]) v' w' :=
 push_el kyE Tryz.underlying31 infoStr rfl (by decide) x h hlen
/-- The keys of a transaction's intents. -/
def keysM (l : List It) (d : Cq) : List K := (mineM l d).map fun x => x.1
theorem keys_yes {l : List It} {d : Cq} {i : Nat} {x : It} (h : l[i]? = some x) (hd : x.2.1 = d) : keysM (l.take (i + 1)) d = keysM (l.take i) d ++ [x.1] := by
 unfold keysM mineM
 rw [take_succ_get h, List.filter_append, List.map_append]
 simp [hd]
theorem keys_no {l : List It} {d : Cq} {i : Nat} {x : It} (h : l[i]? = some x) (hd : x.2.1 ≠ d) : keysM (l.take (i + 1)) d = keysM (l.take i) d := by
 unfold keysM mineM
 rw [take_succ_get h, List.filter_append, List.map_append]
 simp [hd]
theorem keysM_len (l : List It) (d : Cq) (i : Nat) : (keysM (l.take i) d).length ≤ l.length := by
 unfold keysM mineM
 rw [List.length_map]
 exact Nat.le_trans (List.length_filter_le _ _) (by rw [List.length_take]; omega)
/-- The merge, an element at a time. -/
theorem mrg_first {x y : It} {l more : List It} (h : y.1 < x.1) : mrg (x :: l) (y :: more) = y :: mrg (x :: l) more := by
 rw [mrg, mrg, List.takeWhile_cons_of_pos (by simpa using h), List.dropWhile_cons_of_pos (by simpa using h)]
 rfl
theorem mrg_then {x : It} {l more : List It} (h : ∀ y, more.head? = some y → ¬ y.1 < x.1) : mrg (x :: l) more = x :: mrg l more := by
 rw [mrg]
 cases more with
 | nil => rfl
 | cons y more =>
  rw [List.takeWhile_cons_of_neg (by simpa using h y rfl), List.dropWhile_cons_of_neg (by simpa using h y rfl)]
  rfl
theorem drop_get {α : Type} {l : List α} {i : Nat} {x : α} (h : l[i]? = some x) : l.drop i = x :: l.drop (i + 1) := by
 obtain ⟨hi, rfl⟩ := List.getElem?_eq_some_iff.1 h
 rw [List.drop_eq_getElem_cons hi]
/-- A new intent among those that stand. -/
theorem mrg_new {is more out M : List It} {i n : Nat} {y : It} (hy : more[n]? = some y) (hi : is.length ≤ i ∨ ∃ x, is[i]? = some x ∧ y.1 < x.1) (h : out ++ mrg (is.drop i) (more.drop n) = M) : (out ++ [y]) ++ mrg (is.drop i) (more.drop (n + 1)) = M := by
 rw [drop_get hy] at h
 rw [← h, List.append_assoc]
 congr 1
 rcases hi with hi | ⟨x, hx, hlt⟩
 ·rw [List.drop_of_length_le hi]
  rfl
 ·rw [drop_get hx, mrg_first hlt]
  rfl
theorem mrg_old {is more out M : List It} {i n : Nat} {x : It} (hx : is[i]? = some x) (hn : more.length ≤ n ∨ ∃ y, more[n]? = some y ∧ ¬ y.1 < x.1) (h : out ++ mrg (is.drop i) (more.drop n) = M) : (out ++ [x]) ++ mrg (is.drop (i + 1)) (more.drop n) = M := by
 rw [drop_get hx, mrg_then (by
  intro y hy
  rcases hn with hn | ⟨y', hy', hlt⟩
  ·rw [List.drop_of_length_le hn] at hy; cases hy
  ·rw [drop_get hy'] at hy
   cases hy
   exact hlt)] at h
 rw [← h, List.append_assoc]
 rfl
theorem more_get {l : List K} {d : Cq} {kd tt : Int} {tk : Nat} {i : Nat} {k : K} (h : l[i]? = some k) : (moreM l d kd tk tt)[i]? = some (k, d, kd, tk, tt) := by
 unfold moreM
 rw [List.getElem?_map, h]
 rfl
theorem more_length (l : List K) (d : Cq) (kd : Int) (tk : Nat) (tt : Int) : (moreM l d kd tk tt).length = l.length := by
 unfold moreM
 rw [List.length_map]
theorem refused_law (z : Tz) (k : K) (c : Cl) (a : Sa) (tk : Nat) (w : World) (hR : TbR w z) (h : okT z.t = true) (hc : callB c = true) (hk : k ∈ c.keys) :
  Calls Tryz.prog 44 #[tv z, .string (bk k), cv c a, .int .u64 (tk : Int)] w fun e w' => e = .returned (.int .i64 (refOne z.t c.kind c.token tk k)) ∧ Below w.heap.size w w' := by
 obtain ⟨s1, s2, s3, s4, s5⟩ := ok_sizes h
 obtain ⟨c1, c2, c3⟩ := callB_iff.1 hc
 have := rrefused_of z k c a tk w hR (by omega) (by omega) (by omega) (by omega) (by omega)
 rw [rref_same h ((keysB_iff.1 c2).1 k hk) (fun h1 h2 => h1 (c3.1 h2))] at this
 exact this
theorem eq_take {a b : List K} {i : Nat} {x : K} (ha : a[i]? = some x) (hb : b[i]? = some x) (h : a.take i = b.take i) : a.take (i + 1) = b.take (i + 1) := by
 rw [take_succ_get ha, take_succ_get hb, h]
end Go.Proofs.YtfpbgfmnjpamlaaGreat

