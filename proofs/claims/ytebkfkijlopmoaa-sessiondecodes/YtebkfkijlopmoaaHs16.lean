import Derived.Test.YtebkfkijlopmoaaHs15
/- The contracts of the program's Fixed4, Fixed8 and Bytes, and of the document's own Fixed and Bytes: the bytes behind what was there, in memory of the call's own; what lay in memory before stays as it was. -/
namespace Go.Proofs.Ytebkfkijlopmoaa.Wi
open Go.RowKit WireMath
set_option maxRecDepth 100000
set_option linter.unusedSimpArgs false

theorem cells_new (w : World) (cs : Array Value) (l : List Nat) (h : cs.toList = bc l) : ∀ j u, (bc l)[j]? = some u → (w.alloc (.cells cs 5)).cell? ((⟨w.heap.size, 0, none⟩ : Addr).add j) = some u := by
  intro j u hj
  rw [Addr.add_lit, cells_of_block (heap_alloc_new w _), Nat.zero_add, ← Array.getElem?_toList, h]
  exact hj

theorem fx4 (n : Nat) : fx 4 n = [n % 256, n / 256 % 256, n / 65536 % 256, n / 16777216 % 256] := by
  simp only [fx, Nat.div_div_eq_div_mul]
theorem fx8 (n : Nat) : fx 8 n = [n % 256, n / 256 % 256, n / 65536 % 256, n / 16777216 % 256, n / 4294967296 % 256, n / 1099511627776 % 256, n / 281474976710656 % 256, n / 72057594037927936 % 256] := by
  simp only [fx, Nat.div_div_eq_div_mul]

set_option maxHeartbeats 1000000 in
theorem bytes_of (n₀ n₁ : Nat) (l s : List Nat) (v sv : Value) (w : World) (hB : Bs n₀ w v l) (hS : Bs n₁ w sv s) (hn₁ : n₁ ≤ w.heap.size) (hlen : l.length + s.length ≤ 140737488355000) :
    Calls Try.prog 28 #[v, sv] w fun e w' => ∃ v', e = .returned v' ∧ Own w.heap.size w' v' (l ++ uv s.length ++ s) ∧ Below w.heap.size w w' := by
  have hu := uvarint_of n₀ l v s.length w hB (by omega) (by omega)
  have hul := uv_len10 (n := s.length) (by omega)
  have hS' : ∀ w', Below w.heap.size w w' → Bs n₁ w' sv s := fun w' hb => hS.below (hb.mono hn₁)
  obtain ⟨ao, cap, rfl, h2, h3, _⟩ := id hS
  go_enter Try.func28, Try.ntmps28
  go_wp2_with fail
  refine hu.mono ?_
  rintro e w1 ⟨v1, rfl, hO, hb⟩
  go_wp2_with (at_builtin; refine wpList_append_bs rfl _ _ rfl w.heap.size _ _ rfl hO hb.size n₁ _ s rfl (hS' _ hb) ?l2 ?_)
  case l2 => simp; omega
  intro v' w' hO' hb'
  go_wp2
  go_ret
  exact ⟨_, rfl, by first | exact hO' | (rw [List.append_assoc]; exact hO'), hb.trans hb'⟩

set_option maxHeartbeats 1000000 in
theorem refBytes_of (n₁ : Nat) (s : List Nat) (sv : Value) (w : World) (hS : Bs n₁ w sv s) (hn₁ : n₁ ≤ w.heap.size) (hlen : s.length ≤ 140737488355000) :
    Calls Try.prog 34 #[sv] w fun e w' => ∃ v', e = .returned v' ∧ Own w.heap.size w' v' (uv s.length ++ s) ∧ Below w.heap.size w w' := by
  have hu := refUvarint_of s.length w (by omega)
  have hul := uv_len10 (n := s.length) (by omega)
  have hS' : ∀ w', Below w.heap.size w w' → Bs n₁ w' sv s := fun w' hb => hS.below (hb.mono hn₁)
  obtain ⟨ao, cap, rfl, h2, h3, _⟩ := id hS
  go_enter Try.func34, Try.ntmps34
  go_wp2_with fail
  refine hu.mono ?_
  rintro e w1 ⟨v1, rfl, hO, hb⟩
  go_wp2_with (at_builtin; refine wpList_append_bs rfl _ _ rfl w.heap.size _ _ rfl hO hb.size n₁ _ s rfl (hS' _ hb) ?l2 ?_)
  case l2 => omega
  intro v' w' hO' hb'
  go_wp2
  go_ret
  exact ⟨_, rfl, by first | exact hO' | (rw [List.append_assoc]; exact hO'), hb.trans hb'⟩
end Go.Proofs.Ytebkfkijlopmoaa.Wi

