import Derived.Test.YtfpbgfmnjpamlaaGreatHt27
import Derived.Test.YtfpbgfmnjpamlaaGreatHt28
/- The program's Set. -/
namespace Go.Proofs.YtfpbgfmnjpamlaaGreat
open Go.RowKit LeaseMath
set_option maxRecDepth 100000
set_option linter.unusedSimpArgs false
set_option linter.unusedVariables false

theorem setM_put {β : Type} {ok : K × β → Bool} {l : List (K × β)} {k : Nat} {s : K × β} (h : (mayB ok l && ok s) = true) : setM ok l k s = putC l k s := by
  unfold setM putC
  rw [h, if_pos rfl]
set_option maxHeartbeats 2000000 in
theorem set_of (zs : List Hd) (lv : Value) (z : Hd) (K : Nat) (w : World) (hL : Rd holdE w lv zs) (hS : mayB holdB zs = true → Plc zs z.1 K) : Calls Tryz.prog 111 #[lv, hv z] w fun e w' => PutT holdE 59 w.heap.size (setM holdB zs K z) e w' ∧ Below w.heap.size w w' := by
  obtain ⟨T, HT⟩ : ∃ T, Hid (T = PutT holdE 59 w.heap.size (setM holdB zs K z)) := ⟨_, rfl⟩
  rw [← HT.out]
  obtain ⟨hs, hb, cl⟩ := hd_box w z
  have kc := checkh_of (hL.below hb)
  rw [hs] at kc
  have km := fun W => mayHold_of z W
  have HL : Hid (Rd holdE w lv zs) := hL
  obtain ⟨c0, c1, c2⟩ := cl _ (Below.refl _ _)
  obtain ⟨ao, cap, rfl, -, -⟩ := hL.shape
  have hsr : Hid (w.heap.size + 1 ≤ (w.alloc (hc z)).heap.size) := by show _ ≤ _; omega
  clear hL hs
  cases hm : mayB holdB zs with
  | false =>
    have E : Hid (∀ W, T (.returned (.tuple #[.slice none 0 0, .int .i64 1])) W) := fun W => by
      rw [HT.out, set_no (by rw [hm]; rfl)]
      exact ⟨_, rfl, Ow.nil _ _ _ _⟩
    rw [hm] at kc
    simp only [Bool.false_eq_true, if_false] at kc
    obtain ⟨k, t, u⟩ := z
    dsimp only [hv, hc] at *
    clear HT HL hm hS km cl hsr
    go_enter Tryz.func111, Tryz.ntmps111
    go_wp2_with fail
    refine kc.mono ?_
    rintro e w1 ⟨rfl, hb1⟩
    have hb2 := hb.trans (hb1.mono (Nat.le_succ _))
    clear kc c0 c1 c2
    go_wp2
    go_ret2
    exact ⟨E.out _, hb2⟩
  | true =>
    rw [hm] at kc
    simp only [if_true] at kc
    have hp := hS hm
    have hlen := (may_iff.1 hm).1
    cases ho : holdB z with
    | false =>
      have E : Hid (∀ W, T (.returned (.tuple #[.slice none 0 0, .int .i64 1])) W) := fun W => by
        rw [HT.out, set_no (by rw [hm, ho]; rfl)]
        exact ⟨_, rfl, Ow.nil _ _ _ _⟩
      rw [ho] at km
      obtain ⟨k, t, u⟩ := z
      dsimp only [hv, hc] at *
      clear HT HL hm hS hp ho
      go_enter Tryz.func111, Tryz.ntmps111
      go_wp2_with fail
      refine kc.mono ?_
      rintro e w1 ⟨rfl, hb1⟩
      have hb2 := hb.trans (hb1.mono (Nat.le_succ _))
      obtain ⟨d0, d1, d2⟩ := cl _ hb1
      have km1 := km w1
      clear kc c0 c1 c2 km cl
      go_wp2_with fail
      refine km1.mono ?_
      rintro e w2 ⟨rfl, hb3⟩
      have hb4 := hb2.trans (hb3.mono hb2.size)
      clear km1
      go_wp2
      go_ret2
      exact ⟨E.out _, hb4⟩
    | true =>
      have kp : ∀ W, Below w.heap.size w W → _ := fun W hW => puth_of zs _ z K W (HL.out.below hW) hlen hp
      have E : Hid (∀ e W n, w.heap.size ≤ n → PutT holdE 59 n (putC zs K z) e W → T e W) := fun e W n hn h => by
        rw [HT.out, setM_put (by rw [hm, ho]; rfl)]
        obtain ⟨v, h1, h2⟩ := h
        exact ⟨v, h1, h2.mono hn⟩
      rw [ho] at km
      generalize putC zs K z = m at *
      obtain ⟨k, t, u⟩ := z
      dsimp only [hv, hc] at *
      clear HT HL hm hS hp ho
      go_enter Tryz.func111, Tryz.ntmps111
      go_wp2_with fail
      refine kc.mono ?_
      rintro e w1 ⟨rfl, hb1⟩
      have hb2 := hb.trans (hb1.mono (Nat.le_succ _))
      obtain ⟨d0, d1, d2⟩ := cl _ hb1
      have km1 := km w1
      clear kc c0 c1 c2 km
      go_wp2_with fail
      refine km1.mono ?_
      rintro e w2 ⟨rfl, hb3⟩
      have hb4 := hb2.trans (hb3.mono hb2.size)
      have hb1' := keep_step hb1 hsr.out hb3
      obtain ⟨e0, e1, e2⟩ := cl _ hb1'
      have kp2 := kp w2 hb4
      clear km1 hb1 hb3 d0 d1 d2 kp cl hb2
      go_wp2_with fail
      refine kp2.mono ?_
      rintro e w3 ⟨hT, hb5⟩
      have HF := E.out _ _ _ hb4.size hT
      obtain ⟨v, rfl, hO⟩ := hT
      have hb6 := hb4.trans (hb5.mono hb4.size)
      obtain ⟨sa, sc, rfl, -⟩ := hO.1.shape
      have HFH : Hid _ := HF
      clear kp2 hO E HF hb5 hb4 e0 e1 e2 hb1'
      generalize m.1.length = ml at *
      generalize m.2 = mr at *
      go_wp2
      go_ret2
      exact ⟨HFH.out, hb6⟩
end Go.Proofs.YtfpbgfmnjpamlaaGreat

