import Derived.Test.YtoipjmjhplkibaaDoorQ08
/- The contract of a reader's Uvarint. -/
namespace Go.Proofs.YtoipjmjhplkibaaDoor.Fr
open Go.RowKit WireMath
set_option maxRecDepth 100000
set_option linter.unusedSimpArgs false

set_option maxHeartbeats 2000000 in
theorem uvarint_m (q : Nat) (l : List Nat) (a b : Nat) (w : World) (h : Rd w q l a b) (hl : ∀ c ∈ l, c < 256) :
    Calls Tryd.prog 45 #[.pointer (some ⟨q, 0, none⟩)] w fun e w' => e = .returned (.int .u64 (uvN l a b : Int)) ∧ Rd w' q l (uvA l a b) (uvE l a b) ∧ Kp q w w' := by
  cases hrd : rd 10 0 0 (src l a b) with
  | none =>
    have e1 : uvN l a b = 0 := by simp [uvN, hrd]
    have e2 : uvA l a b = a := by simp [uvA, hrd]
    have e3 : uvE l a b = wb b 5 := by simp [uvE, hrd]
    rw [e1, e2, e3]
    go_enter Tryd.func45, Tryd.ntmps45
    go_wp2_with fail
    refine (peek_none q l a b w h hl hrd).mono ?_
    rintro e w1 ⟨rfl, h1, k1⟩
    go_wp2_with fail
    refine (skip_of q l a _ 0 w1 h1 (by obtain ⟨_, _, _, h3⟩ := h1; omega)).mono ?_
    rintro e w2 ⟨rfl, h2, k2⟩
    go_wp2
    go_ret
    exact ⟨rfl, h2, k1.trans k2⟩
  | some x =>
    obtain ⟨n, k⟩ := x
    obtain ⟨hn, hk0, hk10, hkl⟩ := rd_facts (src_bytes hl) hrd
    obtain ⟨rfl, hal⟩ := src_len hkl hk0
    have e1 : uvN l a 0 = n := by simp [uvN, hrd]
    have e2 : uvA l a 0 = a + k := by simp [uvA, hrd]
    have e3 : uvE l a 0 = 0 := by simp [uvE, hrd]
    rw [e1, e2, e3]
    go_enter Tryd.func45, Tryd.ntmps45
    go_wp2_with fail
    refine (peek_some q l a 0 n k w h hl hrd).mono ?_
    rintro e w1 ⟨rfl, h1, k1⟩
    go_wp2_with fail
    refine (skip_of q l a 0 k w1 h1 hal).mono ?_
    rintro e w2 ⟨rfl, h2, k2⟩
    go_wp2
    go_ret
    exact ⟨rfl, h2, k1.trans k2⟩

end Go.Proofs.YtoipjmjhplkibaaDoor.Fr

