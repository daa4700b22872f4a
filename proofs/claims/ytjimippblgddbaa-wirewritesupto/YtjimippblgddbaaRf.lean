/- The contracts of the document's own Fixed, of the law's own same and of awake: the answer; what lay in memory before stays as it was. -/
import Derived.Test.YtjimippblgddbaaFx
import Derived.Laws.IdiomStrings
namespace Go.Proofs.Ytjimippblgddbaa
open Go.RowKit WireMath
set_option maxRecDepth 100000
set_option linter.unusedSimpArgs false

theorem fx_snoc : ∀ (k n : Nat), fx (k + 1) n = fx k n ++ [n / 256 ^ k % 256]
  | 0, n => by simp [fx]
  | k + 1, n => by
    rw [fx, fx_snoc k, fx]
    simp only [List.cons_append, List.cons.injEq, true_and]
    rw [Nat.div_div_eq_div_mul, Nat.pow_succ, Nat.mul_comm]

set_option maxHeartbeats 1000000 in
theorem refFixed_of (many n : Nat) (w : World) (_hn : n < 18446744073709551616) (hm : many ≤ 8) :
    Calls Try.prog 28 #[.int .u64 (n : Int), .int .i64 (many : Int)] w fun e w' => ∃ v', e = .returned v' ∧ Own w.heap.size w' v' (fx many n) ∧ Below w.heap.size w w' := by
  go_enter Try.func28, Try.ntmps28
  go_wp2
  go_loopg [5, 6] many (fun g s5 s6 wr => ∃ i : Nat, i + g = many ∧ s6 = .int .i64 (i : Int) ∧ Own w.heap.size wr s5 (fx i n) ∧ Below w.heap.size w wr)
  case atStart => exact ⟨0, by simp, rfl, Own.nil _ _, Below.refl _ _⟩
  case round =>
    obtain ⟨i, hi, rfl, hG, hB⟩ := hrel
    have hsz := hB.size
    by_cases hlt : i < many
    · have hgi : (i : Int) < (many : Int) := by omega
      have hG1 : ∀ o, Gr w.heap.size (wr.alloc o) _ _ := fun o => .inr (hG.below ((Below.refl wr.heap.size wr).alloc (Nat.le_refl _) o))
      go_wp2_with (at_builtin; refine wpList_append_gr rfl _ _ rfl w.heap.size _ (fx i n) rfl (hG1 _) ?sz _ _ [n / 256 ^ i % 256] rfl (by simp) (cells_new _ _ _ ?eq) ?l2 ?_)
      case sz => simp; omega
      case l2 => rw [fx_length]; simp; omega
      case eq =>
        have e2 : (2 : Int) ^ (8 * i) = 256 ^ i := by rw [Int.pow_mul]; rfl
        simp [bc, e2]
      intro v' w' hO hb
      go_wp2
      go_roundg (gk - 1)
      case measure => omega
      case rel => exact ⟨i + 1, by omega, by go_num, by rw [fx_snoc]; exact hO, hB.trans ((Below.refl _ wr).alloc hsz _ |>.trans hb)⟩
    · have hgi : ¬ (i : Int) < (many : Int) := by omega
      have E : Hid (fx many n = fx i n) := by show _ = _; rw [show i = many by omega]
      go_wp2
      go_ret
      exact ⟨_, rfl, by rw [E.out]; exact hG, hB⟩

/-- Bytes as a text. -/
def str (l : List Nat) : ByteArray := ⟨(l.map UInt8.ofNat).toArray⟩

theorem str_nil (w : World) : (convert 22 9 (.slice none 0 0)).run Try.prog w = .ok (.string (str [])) w := by kernel_rfl

theorem str_of {n₀ : Nat} {w : World} {v : Value} {l : List Nat} (h : Bs n₀ w v l) (hl : ∀ c ∈ l, c < 256) :
    (convert 22 9 v).run Try.prog w = .ok (.string (str l)) w := by
  obtain ⟨ao, cap, rfl, h2, h3, h4, h5⟩ := h
  cases ao with
  | none =>
    have := h4 rfl
    obtain rfl : l = [] := List.eq_nil_of_length_eq_zero (by omega)
    obtain rfl : cap = 0 := by omega
    exact str_nil w
  | some ad =>
    have e := run_convert_bytes_back (P := Try.prog) w 22 9 5 ad cap (l.map UInt8.ofNat) Try.underlying22 Try.underlying5 Try.underlying9 ?_
    · rw [List.length_map] at e; exact e
    · intro j hj
      rw [List.length_map] at hj
      have hne : l ≠ [] := by rintro rfl; simp at hj
      obtain ⟨b, off, e1, _, e3⟩ := h5 hne
      obtain rfl := Option.some.inj e1
      have := e3 j l[j] (by simp [hj])
      have hc := hl l[j] (List.getElem_mem hj)
      rw [Addr.add_lit, this]
      simp only [List.getElem_map, UInt8.toNat_ofNat']
      rw [Nat.mod_eq_of_lt (by omega)]

set_option maxHeartbeats 1000000 in
theorem same_of (n₀ n₁ : Nat) (l : List Nat) (v x : Value) (w : World) (hB : Bs n₀ w v l) (hR : Bs n₁ w x l) (hl : ∀ c ∈ l, c < 256) :
    Calls Try.prog 9 #[v, x] w fun e w' => e = .returned (.bool true) ∧ w' = w := by
  have h1 := str_of hB hl
  have h2 := str_of hR hl
  clear hB hR
  go_enter Try.func9, Try.ntmps9
  go_wp2
  go_ret
  exact ⟨rfl, rfl⟩

theorem uv300 : uv 300 = [172, 2] := by rw [uv_ge (by decide), uv_lt (by decide)]

set_option maxHeartbeats 1000000 in
theorem awake_of (w : World) : Calls Try.prog 10 #[] w fun e w' => e = .returned (.bool true) ∧ Below w.heap.size w w' := by
  have hB : Bs (w.alloc (.cells #[.int .u8 7] 5)).heap.size (w.alloc (.cells #[.int .u8 7] 5)) (.slice (some ⟨w.heap.size, 0, none⟩) 1 1) [7] :=
    ⟨_, _, rfl, Nat.le_refl _, by decide, (fun h => by cases h), fun _ => ⟨w.heap.size, 0, rfl, by simp, fun j c hj => by
      rw [cells_of_block (heap_alloc_new w _)]
      match j, hj with
      | 0, hj => simp at hj; subst hj; rfl⟩⟩
  have hc := uvarint_of _ [7] _ 300 _ hB (by decide) (by simp)
  rw [uv300] at hc
  clear hB
  go_enter Try.func10, Try.ntmps10
  go_wp2_with fail
  refine hc.mono ?_
  rintro e w' ⟨v', rfl, hO, hb⟩
  have hb' : Below w.heap.size w w' := ((Below.refl _ w).alloc (Nat.le_refl _) _).trans (hb.mono (by simp))
  obtain ⟨ao, cap, rfl, _, _, _, h5⟩ := hO.bs
  obtain ⟨b, off, rfl, _, hcell⟩ := h5 (by simp)
  have c0 : w'.cell? ⟨b, off, none⟩ = some (.int .u8 7) := hcell 0 7 rfl
  have c1 : w'.cell? ⟨b, off + 1, none⟩ = some (.int .u8 172) := hcell 1 172 rfl
  have c2 : w'.cell? ⟨b, off + 2, none⟩ = some (.int .u8 2) := hcell 2 2 rfl
  clear hcell h5 hO hc hb
  go_wp2
  go_ret
  exact ⟨rfl, hb'⟩
end Go.Proofs.Ytjimippblgddbaa
