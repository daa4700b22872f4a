import Derived.Test.YtmmonehpfmlmeaaHm24
/- The program's agree. -/
namespace RlogMath
/-- How many of the first entries are of one term. -/
def agM : List Me → List Me → Nat
  | e :: l, f :: m => if e.term = f.term then agM l m + 1 else 0
  | _, _ => 0
theorem agM_nil_l (m : List Me) : agM [] m = 0 := by cases m <;> rfl
theorem agM_nil_r (l : List Me) : agM l [] = 0 := by cases l <;> rfl
theorem agM_at {l m : List Me} {k : Nat} {e f : Me} (he : l[k]? = some e) (hf : m[k]? = some f) : agM (l.drop k) (m.drop k) = if e.term = f.term then agM (l.drop (k + 1)) (m.drop (k + 1)) + 1 else 0 := by
  obtain ⟨h1, rfl⟩ := List.getElem?_eq_some_iff.1 he
  obtain ⟨h2, rfl⟩ := List.getElem?_eq_some_iff.1 hf
  rw [List.drop_eq_getElem_cons h1, List.drop_eq_getElem_cons h2, agM]
theorem agM_end {l m : List Me} {k : Nat} (h : ¬ (k < l.length ∧ k < m.length)) : agM (l.drop k) (m.drop k) = 0 := by
  by_cases h1 : k < l.length
  · rw [show m.drop k = [] from List.drop_eq_nil_of_le (by omega), agM_nil_r]
  · rw [show l.drop k = [] from List.drop_eq_nil_of_le (by omega), agM_nil_l]
theorem agM_le : ∀ (l m : List Me), agM l m ≤ l.length ∧ agM l m ≤ m.length
  | [], m => by rw [agM_nil_l]; simp
  | e :: l, [] => by rw [agM_nil_r]; simp
  | e :: l, f :: m => by
    have := agM_le l m
    rw [agM]
    split <;> simp <;> omega
end RlogMath
namespace Go.Proofs.Ytmmonehpfmlmeaa
open Go.RowKit QuorumMath RlogMath
set_option maxRecDepth 100000
set_option linter.unusedSimpArgs false
set_option linter.unusedVariables false

set_option maxHeartbeats 4000000 in
theorem agree_of (xs ys : List Ez) (xv yv : Value) (w : World) (hX : Rd entE w xv xs) (hY : Rd entE w yv ys) (hlx : xs.length ≤ 1000000000) (hly : ys.length ≤ 1000000000) : Calls Try.prog 48 #[xv, yv] w fun e w' => e = .returned (.int .i64 (agM (mes xs) (mes ys) : Nat)) ∧ Below w.heap.size w w' := by
  obtain ⟨R, HR⟩ : ∃ R, Hid (R = agM (mes xs) (mes ys)) := ⟨_, rfl⟩
  rw [← HR.out]
  obtain ⟨xa, xc, rfl, -, -⟩ := hX.shape
  obtain ⟨ya, yc, rfl, -, -⟩ := hY.shape
  obtain ⟨mm, hmm⟩ : ∃ mm, mm = min xs.length ys.length := ⟨_, rfl⟩
  have hmi : min (xs.length : Int) (ys.length : Int) = (mm : Int) := by omega
  have HMM : Hid (mm ≤ xs.length ∧ mm ≤ ys.length ∧ (mm = xs.length ∨ mm = ys.length)) := by show _ ∧ _; omega
  clear hmm
  have hmb : mm ≤ 1000000000 := by have := HMM.out; omega
  go_enter Try.func48, Try.ntmps48
  go_wp2
  go_loopg [5] mm (fun gh s5 wr => ∃ k : Nat, k + gh = mm ∧ s5 = .int .i64 (k : Int) ∧ Below w.heap.size w wr ∧ Hid (R = k + agM ((mes xs).drop k) ((mes ys).drop k)))
  case atStart => exact ⟨0, by simp, rfl, Below.refl _ _, by show _ = _; rw [HR.out]; simp⟩
  case round =>
    obtain ⟨k, hkg, rfl, hb, HK⟩ := hrel
    clear HR
    by_cases hlt : k < mm
    · have hlti : (k : Int) < (mm : Int) := by omega
      have hkx : k < xs.length := by have := HMM.out; omega
      have hky : k < ys.length := by have := HMM.out; omega
      have hzx : xs[k]? = some xs[k] := List.getElem?_eq_getElem hkx
      have hzy : ys[k]? = some ys[k] := List.getElem?_eq_getElem hky
      obtain ⟨x, hxx⟩ : ∃ x, x = xs[k] := ⟨_, rfl⟩
      obtain ⟨y, hyy⟩ : ∃ y, y = ys[k] := ⟨_, rfl⟩
      rw [← hxx] at hzx
      rw [← hyy] at hzy
      clear hxx hyy
      obtain ⟨p, off, rfl, c⟩ := rde_at hX hzx
      obtain ⟨q, qoff, rfl, d⟩ := rde_at hY hzy
      have hK := HK.out
      rw [agM_at (mes_at hzx) (mes_at hzy)] at hK
      have cW : ∀ n, (wr.drewN n).cell? ⟨p, off + k * 4 + 1, none⟩ = some (.int .u64 (x.1.term : Int)) := fun n => (c _ (below_dN hb n)).2.1
      have dW : ∀ n, (wr.drewN n).cell? ⟨q, qoff + k * 4 + 1, none⟩ = some (.int .u64 (y.1.term : Int)) := fun n => (d _ (below_dN hb n)).2.1
      have c1 := (c _ hb).2.1
      have d1 := (d _ hb).2.1
      obtain ⟨⟨ix, tm, kd, dt⟩, sl⟩ := x
      obtain ⟨⟨ix2, tm2, kd2, dt2⟩, sl2⟩ := y
      dsimp only at cW dW hK c1 d1
      have hkxi : (k : Int) < (xs.length : Int) := by omega
      have hkyi : (k : Int) < (ys.length : Int) := by omega
      by_cases ht : tm = tm2
      · have E : Hid (R = k + 1 + agM ((mes xs).drop (k + 1)) ((mes ys).drop (k + 1))) := by show _ = _; rw [hK, if_pos ht]; omega
        subst ht
        clear hK HK hzx hzy c d hX hY
        go_wp2
        go_quiet (fail)
        go_wp2
        go_roundg (gk - 1)
        case measure => omega
        case rel => exact ⟨k + 1, by omega, by go_num, below_dN hb nq, E⟩
      · have E : Hid (R = k) := by show _ = _; rw [hK, if_neg ht]; omega
        have htb : ((tm : Int) == (tm2 : Int)) = false := by simp; omega
        have hti : ¬ (tm : Int) = (tm2 : Int) := by omega
        clear hK HK hzx hzy c d hX hY ht
        go_wp2
        go_quiet (fail)
        go_wp2
        go_ret
        exact ⟨by rw [E.out]; rfl, below_dN hb nq⟩
    · have hlti : ¬ (k : Int) < (mm : Int) := by omega
      have hltd : decide ((k : Int) < (mm : Int)) = false := by simp; omega
      have E : Hid (R = k) := by
        show _ = _
        have := HMM.out
        rw [HK.out, agM_end (by simp [mes]; omega), Nat.add_zero]
      clear HK hX hY HMM
      go_wp2
      go_big_quiet (fail)
      go_wp2
      go_ret
      exact ⟨by rw [E.out]; rfl, below_dN hb nq⟩

/-- The end of a slice, whatever it lies on. -/
theorem Rd.back' {w : World} {ao : Option Addr} {n cap : Nat} {xs : List Ez} (h : Rd entE w (.slice ao n cap) xs) {k : Nat} (hk : k ≤ xs.length) : Rd entE w (.slice (if cap = k then ao else ao.map (fun x => x.add (k * 4))) (n - k) (cap - k)) (xs.drop k) := by
  cases ao with
  | none =>
    obtain ⟨ao', cap', e, h0, h1, h2⟩ := h
    cases e
    have := h1 rfl
    subst this
    obtain rfl : xs = [] := List.eq_nil_of_length_eq_zero (by omega)
    obtain rfl : k = 0 := by simpa using hk
    exact ⟨none, 0, by simp, by simp, fun _ => rfl, fun i x j u hx => by simp at hx⟩
  | some ad =>
    by_cases hn : xs.length = 0
    · obtain rfl : xs = [] := List.eq_nil_of_length_eq_zero hn
      obtain rfl : k = 0 := by simpa using hk
      obtain ⟨ao', cap', e, h0, h1, h2⟩ := h
      cases e
      exact ⟨if cap = 0 then some ad else (some ad).map (fun x => x.add (0 * 4)), cap - 0, rfl, by simp, (by split <;> simp), fun i x j u hx => by simp at hx⟩
    · obtain ⟨b, off, e, -⟩ := rde_at h (List.getElem?_eq_getElem (show 0 < xs.length by omega))
      obtain rfl := Option.some.inj e
      have h9 := Rd.back h hk
      rw [show (Option.map (fun x => Addr.add x (k * 4)) (some (⟨b, off, none⟩ : Addr))) = some ⟨b, off + k * 4, none⟩ by simp [Addr.add_lit]]
      exact h9
end Go.Proofs.Ytmmonehpfmlmeaa

