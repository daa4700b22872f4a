/- The contracts of the program's Put, of the document's own Frame and of the law's own awake: a frame's bytes in memory of the call's own; what lay in memory before stays as it was. -/
import Derived.Test.YtlminobaohkalaaDoorNexts
namespace Go.Proofs.YtlminobaohkalaaDoor
open Go.RowKit WireMath CrcMath FrameMath
set_option maxRecDepth 100000
set_option linter.unusedSimpArgs false

theorem frame_eq (k : Nat) (l : List Nat) : [] ++ uv (sealed (k :: l)).length ++ sealed (k :: l) = frameB k l := by
  unfold frameB
  rw [sealed_length, List.length_cons, List.nil_append]

theorem put_long (k : Nat) (l : List Nat) (n₀ : Nat) (v : Value) (w : World) (hB : Bs n₀ w v l) (hlen : 1048571 < l.length) :
    Calls Tryd.prog 8 #[.int .u8 (k : Int), v] w fun e w' => e = .returned (.tuple #[.slice none 0 0, .int .i64 3]) ∧ w' = w := by
  obtain ⟨ao, cap, rfl, -⟩ := hB
  have hi : (1048571 : Int) < (l.length : Int) := by omega
  go_enter Tryd.func8, Tryd.ntmps8
  go_wp2
  go_ret2
  exact ⟨rfl, rfl⟩

set_option maxHeartbeats 2000000 in
theorem put_of (k : Nat) (l : List Nat) (n₀ : Nat) (v : Value) (w : World) (hT : Tab w) (hB : Bs n₀ w v l) (hk : k < 256) (hl : ∀ c ∈ l, c < 256) (hn₀ : n₀ ≤ w.heap.size) (hlen : l.length ≤ 1048571) :
    Calls Tryd.prog 8 #[.int .u8 (k : Int), v] w fun e w' => ∃ v', e = .returned (.tuple #[v', .int .i64 0]) ∧ Own w.heap.size w' v' (frameB k l) ∧ Below w.heap.size w w' := by
  have hO := own_new w #[.int .u8 (k : Int)] [k] rfl (by simp [maxLen])
  have hb1 := (Below.refl w.heap.size w).alloc (Nat.le_refl _) (.cells #[.int .u8 (k : Int)] 5)
  have hB1 := hB.below (hb1.mono hn₀)
  have hc1 : [k].length + l.length ≤ 140737488355328 := by simp; omega
  have hkl : ∀ c ∈ k :: l, c < 256 := fun c hc => by
    rcases List.mem_cons.1 hc with rfl | h
    · exact hk
    · exact hl c h
  have E : Hid (frameB k l = [] ++ uv (sealed (k :: l)).length ++ sealed (k :: l)) := (frame_eq k l).symm
  have hs : ∀ n₁ w' v', Below w.heap.size w w' → Bs n₁ w' v' (k :: l) → n₁ ≤ w'.heap.size → Calls Tryd.prog 17 #[v'] w' fun e w'' => ∃ v'', e = .returned v'' ∧ Own w'.heap.size w'' v'' (sealed (k :: l)) ∧ Below w'.heap.size w' w'' := fun n₁ w' v' hb hB' hn => seal_of n₁ (k :: l) v' w' (hT.below' hb (Nat.le_refl _)) hB' hkl hn (by simp; omega)
  have hby : ∀ w' v', Bs w'.heap.size w' v' (sealed (k :: l)) → Calls Tryd.prog 18 #[.slice none 0 0, v'] w' fun e w'' => ∃ v'', e = .returned v'' ∧ Own w'.heap.size w'' v'' (frameB k l) ∧ Below w'.heap.size w' w'' := fun w' v' hB' => by
    have := bytes_of 0 w'.heap.size [] (sealed (k :: l)) (.slice none 0 0) v' w' (Bs.nil _ _) hB' (Nat.le_refl _) (by rw [sealed_length]; simp; omega)
    rw [← E.out] at this
    exact this
  obtain ⟨ao, cap, rfl, -⟩ := id hB
  have hi : ¬ (1048571 : Int) < (l.length : Int) := by omega
  clear hB E
  generalize frameB k l = F at *
  go_enter Tryd.func8, Tryd.ntmps8
  go_wp2_with (at_builtin; refine wpList_append_bs rfl _ _ rfl w.heap.size _ [k] rfl hO hb1.size n₀ _ l rfl hB1 hc1 ?_)
  intro v2 w2 hO2 hb2
  have hB2 : Bs w2.heap.size w2 v2 (k :: l) := hO2.bs
  have hbel := hb1.trans hb2
  go_wp2_with fail
  refine (hs w2.heap.size w2 v2 hbel hB2 (Nat.le_refl _)).mono ?_
  rintro e w3 ⟨v3, rfl, hO3, hb3⟩
  have hbel3 := hbel.trans (hb3.mono hbel.size)
  go_wp2_with fail
  refine (hby w3 v3 hO3.bs).mono ?_
  rintro e w4 ⟨v4, rfl, hO4, hb4⟩
  go_wp2
  go_ret2
  exact ⟨v4, rfl, hO4.mono hbel3.size, hbel3.trans (hb4.mono hbel3.size)⟩

set_option maxHeartbeats 2000000 in
theorem refFrame_of (k : Nat) (l : List Nat) (n₀ : Nat) (v : Value) (w : World) (hB : Bs n₀ w v l) (hk : k < 256) (hl : ∀ c ∈ l, c < 256) (hn₀ : n₀ ≤ w.heap.size) (hlen : l.length ≤ 1048571) :
    Calls Tryd.prog 10 #[.int .u8 (k : Int), v] w fun e w' => ∃ v', e = .returned v' ∧ Own w.heap.size w' v' (frameB k l) ∧ Below w.heap.size w w' := by
  have hO := own_new w #[.int .u8 (k : Int)] [k] rfl (by simp [maxLen])
  have hb1 := (Below.refl w.heap.size w).alloc (Nat.le_refl _) (.cells #[.int .u8 (k : Int)] 5)
  have hB1 := hB.below (hb1.mono hn₀)
  have hc1 : [k].length + l.length ≤ 140737488355328 := by simp; omega
  have hkl : ∀ c ∈ k :: l, c < 256 := fun c hc => by
    rcases List.mem_cons.1 hc with rfl | h
    · exact hk
    · exact hl c h
  obtain ⟨S, hS⟩ : ∃ S, S = sealed (k :: l) := ⟨_, rfl⟩
  have E : Hid (frameB k l = uv S.length ++ S) := by show _ = _; rw [← frame_eq, List.nil_append, hS]
  have hsl : S.length = l.length + 5 := by rw [hS, sealed_length, List.length_cons]
  have hs : ∀ n₁ w' v', Bs n₁ w' v' (k :: l) → n₁ ≤ w'.heap.size → Calls Tryd.prog 19 #[v'] w' fun e w'' => ∃ v'', e = .returned v'' ∧ Own w'.heap.size w'' v'' S ∧ Below w'.heap.size w' w'' := fun n₁ w' v' hB' hn => by
    rw [hS]
    exact refSeal_of n₁ (k :: l) v' w' hB' hkl hn (by simp; omega)
  clear hS
  have hul : (uv S.length).length ≤ 10 := uv_len10 (by omega)
  have hu : ∀ w', Calls Tryd.prog 20 #[.int .u64 ((S.length : Nat) : Int)] w' _ := fun w' => refUvarint_of S.length w' (by omega)
  have hsle : S.length ≤ 1048576 := by omega
  clear hsl
  obtain ⟨ao, cap, rfl, -⟩ := id hB
  clear hB
  go_enter Tryd.func10, Tryd.ntmps10
  go_wp2_with (at_builtin; refine wpList_append_bs rfl _ _ rfl w.heap.size _ [k] rfl hO hb1.size n₀ _ l rfl hB1 hc1 ?_)
  intro v2 w2 hO2 hb2
  have hB2 : Bs w2.heap.size w2 v2 (k :: l) := hO2.bs
  have hbel := hb1.trans hb2
  go_wp2_with fail
  refine (hs w2.heap.size w2 v2 hB2 (Nat.le_refl _)).mono ?_
  rintro e w3 ⟨v3, rfl, hO3, hb3⟩
  have hbel3 := hbel.trans (hb3.mono hbel.size)
  have hB3 := hO3.bs
  obtain ⟨ao3, cap3, rfl⟩ := hO3.shape
  go_wp2_with fail
  refine (hu w3).mono ?_
  rintro e w4 ⟨v4, rfl, hO4, hb4⟩
  have hB4 := hB3.below hb4
  have hc2 : (uv S.length).length + S.length ≤ 140737488355328 := by omega
  go_wp2_with (at_builtin; refine wpList_append_bs rfl _ _ rfl w3.heap.size _ _ rfl hO4 hb4.size _ _ S rfl hB4 hc2 ?_)
  intro v5 w5 hO5 hb5
  go_wp2
  go_ret
  exact ⟨v5, rfl, by rw [E.out]; exact hO5.mono hbel3.size, hbel3.trans ((hb4.trans hb5).mono hbel3.size)⟩

theorem str_ne {l r : List Nat} (hl : ∀ c ∈ l, c < 256) (hr : ∀ c ∈ r, c < 256) (h : l ≠ r) : ((str l).toList == (str r).toList) = false := by
  rw [beq_eq_false_iff_ne]
  intro e
  refine h (str_inj hl hr ?_)
  rw [ByteArray.toList_eq, ByteArray.toList_eq] at e
  exact ByteArray.ext (Array.toList_inj.1 e)

theorem frame_seven : next (frameB 7 []) = .ok (7, [], (frameB 7 []).length) := by
  have := next_frame 7 [] [] (by simp)
  rwa [List.append_nil] at this
theorem frame_seven_length : (frameB 7 []).length = 6 := by rw [frameB_length, uv_lt (by decide)]; rfl
theorem next_nothing : next [] = .error 12 := rfl

set_option maxHeartbeats 2000000 in
theorem awake_of (w : World) (hT : Tab w) : Calls Tryd.prog 9 #[] w fun e w' => e = .returned (.bool true) ∧ Below w.heap.size w w' := by
  have h1 := put_of 7 [] 0 (.slice none 0 0) w hT (Bs.nil _ _) (by decide) (by simp) (Nat.zero_le _) (by simp)
  have h2 : ∀ w' v', Below w.heap.size w w' → Bs w'.heap.size w' v' (frameB 7 []) → Calls Tryd.prog 11 #[v'] w' fun e w'' => ∃ x, e = .returned (.tuple #[.int .u8 7, x, .int .i64 6, .int .i64 0]) ∧ Bs w''.heap.size w'' x [] ∧ Below w'.heap.size w' w'' := fun w' v' hb hB' => by
    refine (next_of _ _ _ w' (hT.below' hb (Nat.le_refl _)) hB' (frameB_lt (by decide) (by simp)) (Nat.le_refl _)).mono ?_
    rintro e w'' ⟨x, rfl, hx, _, hb'⟩
    rw [frame_seven] at hx ⊢
    rw [frame_seven_length]
    exact ⟨x, rfl, hx, hb'⟩
  have h3 : ∀ w', Below w.heap.size w w' → Calls Tryd.prog 11 #[.slice none 0 0] w' fun e w'' => ∃ x, e = .returned (.tuple #[.int .u8 0, x, .int .i64 0, .int .i64 12]) ∧ Below w'.heap.size w' w'' := fun w' hb => by
    refine (next_of 0 [] _ w' (hT.below' hb (Nat.le_refl _)) (Bs.nil _ _) (by simp) (Nat.zero_le _)).mono ?_
    rintro e w'' ⟨x, rfl, hx, _, hb'⟩
    exact ⟨x, rfl, hb'⟩
  have hl6 := frame_seven_length
  generalize frameB 7 [] = F at *
  go_enter Tryd.func9, Tryd.ntmps9
  go_wp2_with fail
  refine h1.mono ?_
  rintro e w1 ⟨v1, rfl, hO1, hb1⟩
  have hB1 := hO1.bs
  obtain ⟨ao1, cap1, rfl⟩ := hO1.shape
  rw [hl6] at *
  go_wp2_with fail
  refine (h2 w1 _ hb1 hB1).mono ?_
  rintro e w2 ⟨x, rfl, hx, hb2⟩
  obtain ⟨ax, capx, rfl, -⟩ := hx
  have hbel2 := hb1.trans (hb2.mono hb1.size)
  go_wp2_with fail
  refine (h3 w2 hbel2).mono ?_
  rintro e w3 ⟨y, rfl, hb3⟩
  go_wp2
  go_ret
  exact ⟨rfl, hbel2.trans (hb3.mono hbel2.size)⟩
end Go.Proofs.YtlminobaohkalaaDoor
