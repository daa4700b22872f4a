import Derived.Test.YtfpbgfmnjpamlaaGreatHt31
import Derived.Test.YtfpbgfmnjpamlaaGreatHt28
import Derived.Test.YtfpbgfmnjpamlaaGreatHt32
/- The program's Mark. -/
namespace Go.Proofs.YtfpbgfmnjpamlaaGreat
open Go.RowKit LeaseMath
set_option maxRecDepth 100000
set_option linter.unusedSimpArgs false
set_option linter.unusedVariables false

/-- What is kept of a token. -/
def markM (l : List Mk) (k : Nat) (c : K) (t : Nat) : List Mk × Int := if mayB markB l && markB (c, t) then putC l k (c, max t (lastM l c)) else ([], 1)
theorem run_max_u64 {P : Program} (w : World) (ts : Array TypeId) (ty : TypeId) (a b : Nat) : (Builtin.max_ ts ty #[.int .u64 (a : Int), .int .u64 (b : Int)]).run P w = .ok (.int .u64 ((max a b : Nat) : Int)) w := by
  rcases Nat.lt_or_ge a b with h | h
  · rw [Nat.max_eq_right (Nat.le_of_lt h)]
    have h' : (a : Int) < (b : Int) := by omega
    simp [Builtin.max_, Builtin.max2, h', h, asBool]
  · rw [Nat.max_eq_left h]
    have h' : ¬ (a : Int) < (b : Int) := by omega
    have h'' : ¬ a < b := by omega
    simp [Builtin.max_, Builtin.max2, h', h'', asBool]
set_option maxHeartbeats 4000000 in
theorem mark_of (zs : List Mk) (lv : Value) (c : K) (t : Nat) (K : Nat) (w : World) (hL : Rd markE w lv zs) (hS : mayB markB zs = true → Plc zs c K) : Calls Tryz.prog 115 #[lv, .string (bk c), .int .u64 (t : Int)] w fun e w' => PutT markE 61 w.heap.size (markM zs K c t) e w' ∧ Below w.heap.size w w' := by
  obtain ⟨T, HT⟩ : ∃ T, Hid (T = PutT markE 61 w.heap.size (markM zs K c t)) := ⟨_, rfl⟩
  rw [← HT.out]
  obtain ⟨hs, hbl, hb⟩ := one_box w (.cells #[.string (bk c), .int .u64 (t : Int)] 61)
  have cl : ∀ W, Below (w.heap.size + 1) (w.alloc (.cells #[.string (bk c), .int .u64 (t : Int)] 61)) W → W.heap[w.heap.size]? = some (.cells #[.string (bk c), .int .u64 (t : Int)] 61 (0, 0)) := fun W hW => (hW.block w.heap.size (Nat.lt_succ_self _)).trans hbl
  have kc := checkm_of (hL.below hb)
  rw [hs] at kc
  have km := fun W => mayMark_of (c, t) W
  have HL : Hid (Rd markE w lv zs) := hL
  obtain ⟨-, c0, c1⟩ := m_cells hbl
  obtain ⟨ao, cap, rfl, -, -⟩ := hL.shape
  have hsr : Hid (w.heap.size + 1 ≤ (w.alloc (.cells #[.string (bk c), .int .u64 (t : Int)] 61)).heap.size) := by show _ ≤ _; omega
  dsimp only [mv] at km
  clear hL hs hbl
  cases hm : mayB markB zs with
  | false =>
    have E : Hid (∀ W, T (.returned (.tuple #[.slice none 0 0, .int .i64 1])) W) := fun W => by
      rw [HT.out, show markM zs K c t = ([], 1) by unfold markM; rw [hm]; rfl]
      exact ⟨_, rfl, Ow.nil _ _ _ _⟩
    rw [hm] at kc
    simp only [Bool.false_eq_true, if_false] at kc
    clear HT HL hm hS km cl hsr
    go_enter Tryz.func115, Tryz.ntmps115
    go_wp2_with fail
    refine kc.mono ?_
    rintro e w1 ⟨rfl, hb1⟩
    have hb2 := hb.trans (hb1.mono (Nat.le_succ _))
    clear kc c0 c1
    go_wp2
    go_ret2
    exact ⟨E.out _, hb2⟩
  | true =>
    rw [hm] at kc
    simp only [if_true] at kc
    have hp := hS hm
    have hlen := (may_iff.1 hm).1
    cases ho : markB (c, t) with
    | false =>
      have E : Hid (∀ W, T (.returned (.tuple #[.slice none 0 0, .int .i64 1])) W) := fun W => by
        rw [HT.out, show markM zs K c t = ([], 1) by unfold markM; rw [hm, ho]; rfl]
        exact ⟨_, rfl, Ow.nil _ _ _ _⟩
      rw [ho] at km
      clear HT HL hm hS hp ho
      go_enter Tryz.func115, Tryz.ntmps115
      go_wp2_with fail
      refine kc.mono ?_
      rintro e w1 ⟨rfl, hb1⟩
      have hb2 := hb.trans (hb1.mono (Nat.le_succ _))
      obtain ⟨-, d0, d1⟩ := m_cells (cl _ hb1)
      have km1 := km w1
      clear kc c0 c1 km cl
      go_wp2_with fail
      refine km1.mono ?_
      rintro e w2 ⟨rfl, hb3⟩
      have hb4 := hb2.trans (hb3.mono hb2.size)
      clear km1
      go_wp2
      go_ret2
      exact ⟨E.out _, hb4⟩
    | true =>
      have kp : ∀ W, Below w.heap.size w W → _ := fun W hW => putm_of zs _ (c, max t (lastM zs c)) K W (HL.out.below hW) hlen hp
      have kl : ∀ W, Below w.heap.size w W → _ := fun W hW => last_of zs _ c W (HL.out.below hW) (by omega)
      have E : Hid (∀ e W n, w.heap.size ≤ n → PutT markE 61 n (putC zs K (c, max t (lastM zs c))) e W → T e W) := fun e W n hn h => by
        rw [HT.out, show markM zs K c t = putC zs K (c, max t (lastM zs c)) by unfold markM; rw [hm, ho]; rfl]
        obtain ⟨v, h1, h2⟩ := h
        exact ⟨v, h1, h2.mono hn⟩
      rw [ho] at km
      dsimp only [mv] at kp
      generalize putC zs K (c, max t (lastM zs c)) = m at *
      have hmax := fun (W : World) ts ty => run_max_u64 (P := Tryz.prog) W ts ty t (lastM zs c)
      generalize max t (lastM zs c) = mx at *
      generalize lastM zs c = la at *
      clear HT HL hm hS hp ho
      go_enter Tryz.func115, Tryz.ntmps115
      go_wp2_with fail
      refine kc.mono ?_
      rintro e w1 ⟨rfl, hb1⟩
      have hb2 := hb.trans (hb1.mono (Nat.le_succ _))
      obtain ⟨-, d0, d1⟩ := m_cells (cl _ hb1)
      have km1 := km w1
      clear kc c0 c1 km
      go_wp2_with fail
      refine km1.mono ?_
      rintro e w2 ⟨rfl, hb3⟩
      have hb4 := hb2.trans (hb3.mono hb2.size)
      have hb1' := keep_step hb1 hsr.out hb3
      have kl2 := kl w2 hb4
      clear km1 hb1 hb3 d0 d1 kl hb2
      go_wp2_with fail
      refine kl2.mono ?_
      rintro e w3 ⟨rfl, hb5⟩
      have hb6 := hb4.trans (hb5.mono hb4.size)
      have hb7 := keep_step hb1' hsr.out hb5
      have hbx := cl _ hb7
      obtain ⟨⟨f0, f1⟩, x0, x1⟩ := m_cells hbx
      obtain ⟨W1, hW1⟩ : ∃ W1, w3.setCell ⟨w.heap.size, 1, none⟩ (.int .u64 (mx : Int)) = W1 := ⟨_, rfl⟩
      have hbW : Below w.heap.size w W1 := by rw [← hW1]; exact hb6.setCell (p := ⟨w.heap.size, 1, none⟩) (Nat.le_refl _) _
      have hbx1 : W1.heap[w.heap.size]? = some (.cells #[.string (bk c), .int .u64 (mx : Int)] 61 (0, 0)) := by
        rw [← hW1]
        simp [World.setCell, Array.getElem?_modify, hbx]
      obtain ⟨-, y0, y1⟩ := m_cells hbx1
      have kp2 := kp W1 hbW
      clear kl2 hb1' hb5 hb4 hb7 hb6 kp cl hbx hbx1
      go_wp2_with fail
      refine kp2.mono ?_
      rintro e w4 ⟨hT, hb8⟩
      have HF := E.out _ _ _ hbW.size hT
      obtain ⟨v, rfl, hO⟩ := hT
      have hb9 := hbW.trans (hb8.mono hbW.size)
      obtain ⟨sa, sc, rfl, -⟩ := hO.1.shape
      have HFH : Hid _ := HF
      clear kp2 hO E HF hb8 hbW y0 y1 x0 x1 f0 f1 hW1 hmax
      generalize m.1.length = ml at *
      generalize m.2 = mr at *
      go_wp2
      go_ret2
      exact ⟨HFH.out, hb9⟩
end Go.Proofs.YtfpbgfmnjpamlaaGreat

