import Derived.Test.YtebkfkijlopmoaaHo33
import Derived.Test.YtebkfkijlopmoaaHo34
import Derived.Lib.SlBytesConst
/- The law's light and awake. -/
namespace Go.Proofs.Ytebkfkijlopmoaa
open Go.RowKit SessionMath
set_option maxRecDepth 100000
set_option linter.unusedSimpArgs false
set_option linter.unusedVariables false

/-- Numbers and bytes of a plain seat. -/
def OkS (m : Ms) : Prop := m.sq < 18446744073709551616 ∧ ∀ c ∈ m.rp, c < 256
theorem szok_of {zs : List Sz} {l : List Ms} (h : mes zs = l) (hl : ∀ m ∈ l, OkS m) : ∀ z ∈ zs, SzOk z := fun z hz => hl z.1 (by rw [← h]; exact List.mem_map.2 ⟨z, hz, rfl⟩)
theorem mes_len {zs : List Sz} {l : List Ms} (h : mes zs = l) : zs.length = l.length := by rw [← h]; simp
theorem put_one : putM [] ⟨1, 5, [120]⟩ = ([⟨1, 5, [120]⟩], 0) := rfl
theorem look_one : lookM [⟨1, 5, [120]⟩] 1 5 = ([120], true, 0) := rfl
theorem look_four : lookM [⟨1, 5, [120]⟩] 1 4 = ([], false, 7) := rfl
theorem cell_of_marked {w : World} {b : Nat} {cs : Array Value} {t : TypeId} {fz : Nat × Nat} (h : w.heap[b]? = some (.cells cs t fz)) (i : Nat) : w.cell? ⟨b, i, none⟩ = cs[i]? := by
  simp [World.cell?, h]
theorem str_x : Wi.str [120] = { data := #[120] } := rfl

set_option maxHeartbeats 4000000 in
theorem awake_of (w : World) : Calls Try.prog 8 #[] w fun e w' => e = .returned (.bool true) ∧ Below w.heap.size w w' := by
  obtain ⟨q1, q2, q3⟩ := one_box w (.cells #[.int .u8 120] 5 (1, 2))
  have hB : Bn (w.alloc (.cells #[.int .u8 120] 5 (1, 2))) (.slice (some ⟨w.heap.size, 0, none⟩) 1 1) [120] :=
    ⟨_, _, rfl, Nat.le_refl _, by decide, (fun h => by cases h), fun _ => ⟨w.heap.size, 0, rfl, by rw [q1]; omega, fun j c hj => by
      match j, hj with
      | 0, hj =>
        cases hj
        rw [cell_of_marked q2]
        rfl
      | j + 1, hj => simp at hj⟩⟩
  have kp : Calls Try.prog 13 #[.slice none 0 0, .agg #[.int .i64 1, .int .u64 5], .slice (some ⟨w.heap.size, 0, none⟩) 1 1] (w.alloc (.cells #[.int .u8 120] 5 (1, 2))) fun e w' => PutT ([⟨1, 5, [120]⟩], 0) e w' ∧ Below (w.alloc (.cells #[.int .u8 120] 5 (1, 2))).heap.size (w.alloc (.cells #[.int .u8 120] 5 (1, 2))) w' := by
    have h := put_of [] (.slice none 0 0) _ 1 5 [120] _ (SeatsV.nil _) hB (by simp) (by simp) (by decide) (by simp)
    rw [show putM (mes []) ⟨1, 5, [120]⟩ = ([⟨1, 5, [120]⟩], 0) from put_one] at h
    exact h
  have hc1 : ∀ w' : World, (convert 26 26 (.slice (some ⟨w'.heap.size, 0, none⟩) 1 1)).run Try.prog (w'.alloc (.cells #[.int .u8 120] 5)) = .ok (.slice (some ⟨w'.heap.size, 0, none⟩) 1 1) (w'.alloc (.cells #[.int .u8 120] 5 (1, 2))) := fun w' => Lib.run_convert_bytes_const w' 26 5 _ 1 1 Try.underlying26 Try.underlying5
  have kl : ∀ (zs : List Sz) (v : Value) (W : World), SeatsV W v zs → mes zs = [⟨1, 5, [120]⟩] → Calls Try.prog 9 #[v, .agg #[.int .i64 1, .int .u64 5]] W fun e w' => LookT ([120], true, 0) e w' ∧ Below W.heap.size W w' := fun zs v W hv hm => by
    have h := look_of zs v 1 5 W hv (szok_of hm (by simp [OkS])) (by rw [mes_len hm]; simp) (by decide)
    rw [hm, look_one] at h
    exact h
  have kl4 : ∀ (zs : List Sz) (v : Value) (W : World), SeatsV W v zs → mes zs = [⟨1, 5, [120]⟩] → Calls Try.prog 9 #[v, .agg #[.int .i64 1, .int .u64 4]] W fun e w' => LookT ([], false, 7) e w' ∧ Below W.heap.size W w' := fun zs v W hv hm => by
    have h := look_of zs v 1 4 W hv (szok_of hm (by simp [OkS])) (by rw [mes_len hm]; simp) (by decide)
    rw [hm, look_four] at h
    exact h
  clear hB q2
  go_enter Try.func8, Try.ntmps8
  go_wp2_with fail
  refine kp.mono ?_
  rintro e w1 ⟨⟨v1, zs1, rfl, hS1, hm1⟩, hb1⟩
  have hb01 := keep_step q3 (Nat.le_refl _) hb1
  have k2 := kl zs1 v1 w1 hS1 hm1
  have k3 : Hid (∀ W, Below w1.heap.size w1 W → _) := fun W hW => kl4 zs1 v1 W (hS1.below hW) hm1
  obtain ⟨a1, c1, rfl, -, -⟩ := hS1.1.shape
  clear kp kl kl4 hS1 hm1
  go_wp2_with fail
  refine k2.mono ?_
  rintro e w2 ⟨⟨v2, rfl, hB2⟩, hb2⟩
  have hb02 := keep_step hb01 (Nat.le_refl _) hb2
  have k33 := k3.out w2 hb2
  clear k2 k3 hb01
  go_wp2_with fail
  refine k33.mono ?_
  rintro e w3 ⟨⟨v3, rfl, hB3⟩, hb3⟩
  have hb03 := keep_step hb02 (Nat.le_refl _) hb3
  have e1 := Wi.str_of (hB2.below hb3) (by simp)
  rw [str_x] at e1
  obtain ⟨a2, c2, rfl⟩ := hB2.shape
  have e2 : (convert 26 9 (.slice a2 1 c2)).run Try.prog w3 = .ok (.string { data := #[120] }) w3 := e1
  clear k33 hb02 hB2 hB3 e1
  go_wp2
  go_ret
  exact ⟨rfl, hb03⟩
end Go.Proofs.Ytebkfkijlopmoaa

