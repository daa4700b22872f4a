/- The law FrameAll: true at any bytes; what lay in memory before stays as it was. -/
import Derived.Test.YtlminobaohkalaaDoorSame
import Derived.Test.YtlminobaohkalaaDoorAlls
namespace Go.Proofs.YtlminobaohkalaaDoor
open Go.RowKit WireMath CrcMath FrameMath
set_option maxRecDepth 100000
set_option linter.unusedSimpArgs false

theorem all_bytes : ∀ (f : Nat) (m : List Nat), (∀ c ∈ m, c < 256) → ∀ x ∈ (all f m).1, ∀ c ∈ x.2, c < 256 := by
  intro f
  induction f with
  | zero => intro m _ x hx; simp [all] at hx
  | succ f ih =>
    intro m hm x hx
    by_cases h0 : m = []
    · subst h0
      rw [all_nil] at hx
      simp at hx
    · cases hn : next m with
      | error e =>
        rw [all_err f h0 hn] at hx
        simp at hx
      | ok xx =>
        obtain ⟨k, d, s⟩ := xx
        rw [all_ok f h0 hn] at hx
        rcases List.mem_cons.1 hx with rfl | hx
        · exact fun c hc => hm c ((next_ok_facts hn).2.2.2 c hc)
        · exact ih (m.drop s) (fun c hc => hm c (List.mem_of_mem_drop hc)) x hx
theorem all_few : ∀ (f : Nat) (m : List Nat), (all f m).1.length ≤ f := by
  intro f
  induction f with
  | zero => intro m; simp [all]
  | succ f ih =>
    intro m
    by_cases h0 : m = []
    · subst h0
      rw [all_nil]
      simp
    · cases hn : next m with
      | error e => rw [all_err f h0 hn]; simp
      | ok xx =>
        obtain ⟨k, d, s⟩ := xx
        rw [all_ok f h0 hn]
        have := ih (m.drop s)
        simp
        omega

set_option maxHeartbeats 1000000 in
theorem all_long (l : List Nat) (v : Value) (w : World) (hT : Tab w) (hB : Bs w.heap.size w v l) (h : 5000 < l.length) :
    Calls Tryd.prog 5 #[v] w fun e w' => e = .returned (.bool true) ∧ Below w.heap.size w w' := by
  have ka := awake_of w hT
  obtain ⟨ao, cap, rfl, -⟩ := hB
  have i : (5000 : Int) < (l.length : Int) := by omega
  go_enter Tryd.func5, Tryd.ntmps5
  go_wp2_with fail
  refine ka.mono ?_
  rintro e w1 ⟨rfl, hb⟩
  go_wp2
  go_ret
  exact ⟨rfl, hb⟩

set_option maxHeartbeats 2000000 in
theorem all_short (l : List Nat) (v : Value) (w : World) (hT : Tab w) (hB : Bs w.heap.size w v l) (hl : ∀ c ∈ l, c < 256) (h : l.length ≤ 5000) :
    Calls Tryd.prog 5 #[v] w fun e w' => e = .returned (.bool true) ∧ Below w.heap.size w w' := by
  have ka : ∀ w', Below w.heap.size w w' → Calls Tryd.prog 9 #[] w' fun e w'' => e = .returned (.bool true) ∧ Below w'.heap.size w' w'' := fun w' hb => awake_of w' (hT.below' hb (Nat.le_refl _))
  have kn : ∀ w' v', Below w.heap.size w w' → Bs w'.heap.size w' v' l → Calls Tryd.prog 13 #[v'] w' _ := fun w' v' hb hB' => all_of _ l v' w' (hT.below' hb (Nat.le_refl _)) hB' hl (Nat.le_refl _) (by omega)
  have kr : ∀ w', Below w.heap.size w w' → Calls Tryd.prog 14 #[v] w' _ := fun w' hb => refAll_of _ l v w' (hB.below hb) hl hb.size (by omega)
  have hO := own_new w #[] [] rfl (by simp)
  have hb1 := (Below.refl w.heap.size w).alloc (Nat.le_refl _) (.cells #[] 5)
  have hB1 := hB.below hb1
  have hc1 : (([] : List Nat).length + l.length) ≤ 140737488355328 := by simp; omega
  obtain ⟨ao, cap, rfl, -⟩ := id hB
  have i : ¬ (5000 : Int) < (l.length : Int) := by omega
  have hab := all_bytes l.length l hl
  have haf := all_few l.length l
  generalize all l.length l = R at *
  obtain ⟨fs, m, e0⟩ := R
  simp only at kn kr hab haf
  go_enter Tryd.func5, Tryd.ntmps5
  go_wp2_with (at_builtin; refine wpList_append_bs rfl _ _ rfl w.heap.size _ [] rfl hO hb1.size w.heap.size _ l rfl hB1 hc1 ?_)
  intro v1 w1 hO1 hb1'
  have hbw1 : Below w.heap.size w w1 := hb1.trans hb1'
  go_wp2_with fail
  refine (kn w1 v1 hbw1 hO1.bs).mono ?_
  rintro e w2 ⟨kv, dv, rfl, hF2, hb2⟩
  have hbw2 := hbw1.trans (hb2.mono hbw1.size)
  go_wp2_with fail
  refine (kr w2 hbw2).mono ?_
  rintro e w3 ⟨ov, rfl, hI3, hb3⟩
  have hbw3 := hbw2.trans (hb3.mono hbw2.size)
  have hF3 := hF2.below hb3
  have hK3 : Bs w3.heap.size w3 kv (fs.map Prod.fst) := by
    obtain ⟨cs, h1, _⟩ := hF3
    exact h1.bs
  have ks := same_of w3.heap.size fs kv dv ov w3 hK3 hF3.dv hI3.iv hab (by omega)
  clear hO hb1 hB1 hO1 kn kr hF2
  go_wp2_with fail
  refine ks.mono ?_
  rintro e w4 ⟨rfl, hb4⟩
  have hbw4 := hbw3.trans (hb4.mono hbw3.size)
  go_wp2_with fail
  refine (ka w4 hbw4).mono ?_
  rintro e w5 ⟨rfl, hb5⟩
  go_wp2
  go_ret
  exact ⟨rfl, hbw4.trans (hb5.mono hbw4.size)⟩

theorem all_law (l : List Nat) (v : Value) (w : World) (hT : Tab w) (hB : Bs w.heap.size w v l) (hl : ∀ c ∈ l, c < 256) :
    Calls Tryd.prog 5 #[v] w fun e w' => e = .returned (.bool true) ∧ Below w.heap.size w w' := by
  by_cases h : 5000 < l.length
  · exact all_long l v w hT hB h
  · exact all_short l v w hT hB hl (by omega)
end Go.Proofs.YtlminobaohkalaaDoor
