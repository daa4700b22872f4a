import Derived.Test.YtjkjekhbfjjnjaaHb15
/- The law's awake; a bag that the call made. -/
namespace Go.Proofs.Ytjkjekhbfjjnjaa
open Go.RowKit Go.Maps
set_option maxRecDepth 100000
set_option linter.unusedSimpArgs false
set_option linter.unusedVariables false

theorem Hid.intro {p : Prop} (h : p) : Hid p := h
/-- A bag all of whose blocks lie from n on. -/
def BagNew (n : Nat) (w : World) (p m : Nat) (l : List Msg) (P : Int → Int → Bool) (N : Nat) : Prop := ∃ fv, BagAt w p m fv l P N ∧ ∀ k, Mine p m fv k → n ≤ k
theorem BagNew.did {n : Nat} {w w' : World} {p m : Nat} {fv : Value} {l l' : List Msg} {P' : Int → Int → Bool} {N' : Nat} (hn : n ≤ w.heap.size) (hm : ∀ k, Mine p m fv k → n ≤ k) (hd : Did w p m fv l' P' N' w') : BagNew n w' p m l' P' N' ∧ Below n w w' := by
  obtain ⟨fv', d1, d2, d3⟩ := hd
  refine ⟨⟨fv', d1, fun k hk => ?_⟩, d2.below hn hm⟩
  rcases hk with hk | hk | hk
  · exact hm k (.inl hk)
  · exact hm k (.inr (.inl hk))
  · rcases d3 k hk with h | h
    · exact hm k (.inr (.inr h))
    · omega
theorem BagNew.below {n : Nat} {w w' : World} {p m : Nat} {l : List Msg} {P : Int → Int → Bool} {N : Nat} (h : BagNew n w p m l P N) (hb : Below w.heap.size w w') : BagNew n w' p m l P N := by
  obtain ⟨fv, h1, h2⟩ := h
  exact ⟨fv, h1.below hb, h2⟩

theorem Nb.cell {n : Nat} {w : World} {v : Value} {d : List Nat} (h : Nb n w v d) : ∃ g cap, v = .slice (some ⟨g, 0, none⟩) d.length cap ∧ d.length ≤ cap ∧ cap ≤ maxLen ∧ n ≤ g ∧ g < w.heap.size ∧ (∀ j c : Nat, d[j]? = some c → w.cell? ⟨g, j, none⟩ = some (.int .u8 (c : Int))) ∧ ∀ j, j < d.length → w.frozen? ⟨g, j, none⟩ = false := by
  obtain ⟨g, cap, cur, fz, rfl, h1, h2, h3, h4, h5, h6⟩ := h
  refine ⟨g, cap, rfl, h1, h2, h3, (Array.getElem?_eq_some_iff.1 h4).1, fun j c hj => ?_, fun j hj => ?_⟩
  · simp [World.cell?, h4, h6 j c hj]
  · simp [World.frozen?, h4]
    omega

set_option maxHeartbeats 4000000 in
theorem awake_of (w : World) : Calls Try.prog 14 #[] w fun e w' => e = .returned (.bool true) ∧ Below w.heap.size w w' := by
  have k0 := new_of w
  go_enter Try.func14, Try.ntmps14
  go_wp2_with fail
  refine k0.mono ?_
  rintro e w1 ⟨p, m, fv, rfl, hA, hM, hb1⟩
  have a1 := (Below.refl w1.heap.size w1).alloc (Nat.le_refl _) (.cells #[.int .u8 7] 5)
  have hO : Own w1.heap.size (w1.alloc (.cells #[.int .u8 7] 5)) (.slice (some ⟨w1.heap.size, 0, none⟩) 1 1) [7] := own_new w1 #[.int .u8 7] [7] rfl (by decide)
  have hB := @Own.bs keepAll _ _ _ _ hO (Nat.zero_le _)
  have kp := post_yes (hA.below a1) 1 2 _ [7] hB ⟨⟨by decide, by decide⟩, ⟨by decide, by decide⟩, by simp, by decide⟩ (by simp)
  have k2 : ∀ W, Did (w1.alloc (.cells #[.int .u8 7] 5)) p m fv ([] ++ [(1, 2, [7])]) (fun _ _ => false) 0 W → Hid (Below w.heap.size w W ∧ Calls Try.prog 15 #[.pointer (some ⟨p, 0, none⟩), .int .i64 0] W (fun e w' => ∃ g cap, e = .returned (.tuple #[.int .i64 1, .int .i64 2, .slice (some ⟨g, 0, none⟩) 1 cap, .bool true]) ∧ w'.cell? ⟨g, 0, none⟩ = some (.int .u8 7) ∧ Below w.heap.size w w' ∧ Calls Try.prog 10 #[.pointer (some ⟨p, 0, none⟩)] w' (fun e w'' => e = .returned (.int .i64 0) ∧ w'' = w'))) := fun W hD => by
    obtain ⟨⟨fv2, c1, c2⟩, c3⟩ := BagNew.did (n := w.heap.size) (l := []) (by have := hb1.size; simp; omega) hM hD
    have hW := (hb1.trans (a1.mono hb1.size)).trans c3
    refine ⟨hW, ?_⟩
    have kd := deliver_yes c1 0 (1, 2, [7]) rfl (by simp)
    refine kd.mono ?_
    rintro e w' ⟨⟨v, rfl, hN⟩, hD2⟩
    have hN' : Nb W.heap.size w' v [7] := hN
    obtain ⟨g, cap, rfl, -, -, -, -, hc, -⟩ := hN'.cell
    obtain ⟨⟨fv3, d1, d2⟩, d3⟩ := BagNew.did (n := w.heap.size) (l := []) hW.size c2 hD2
    obtain ⟨q0, q1, q2⟩ := d1.cells
    obtain ⟨ao, cp, hfv, -⟩ := d1.row.shape
    exact ⟨g, cap, rfl, hc 0 7 rfl, hW.trans d3, len_of (hfv ▸ q0) q1⟩
  clear k0 hA hM a1 hO hB
  go_wp2_with fail
  refine kp.mono ?_
  rintro e w2 ⟨rfl, hD⟩
  obtain ⟨hw2, kd⟩ := (k2 w2 hD).out
  clear kp k2 hD
  go_wp2_with fail
  refine kd.mono ?_
  rintro e w3 ⟨g, cap, rfl, hc, hw3, kl⟩
  clear kd
  go_wp2_with fail
  refine kl.mono ?_
  rintro e w4 ⟨rfl, rfl⟩
  go_wp2
  go_ret
  exact ⟨rfl, hw3⟩
end Go.Proofs.Ytjkjekhbfjjnjaa

