import Derived.Test.YtgfoogeiancecaaGreatDoorHw17
import Derived.Test.YtgfoogeiancecaaGreatDoorHw43
/- The contract of the law's light: the acts that are taken. -/
namespace Go.Proofs.YtgfoogeiancecaaGreatDoor
open Go.RowKit DiskMath
set_option maxRecDepth 100000
set_option linter.unusedSimpArgs false
set_option linter.unusedVariables false

/-- How many bytes acts have. -/
def totB (l : List Wc) : Nat := (l.map fun x => x.b.length).sum
theorem totB_append (l k : List Wc) : totB (l ++ k) = totB l + totB k := by simp [totB]
theorem totB_snoc (l : List Wc) (x : Wc) : totB (l ++ [x]) = totB l + x.b.length := by simp [totB]
/-- Acts that are not too many, nor too great. -/
def LightL (l : List Wc) : Prop := l.length ≤ 80 ∧ totB l ≤ 40000
theorem Wv.took {w : World} {ao : Option Addr} {cap : Nat} {l : List Wc} (h : Wv w (.slice ao l.length cap) l) (i : Nat) (hi : i ≤ l.length) : Wv w (.slice ao i cap) (l.take i) := by
  obtain ⟨ao', cap', e, h1, h2, h3⟩ := h
  cases e
  have hl : (l.take i).length = i := by rw [List.length_take]; omega
  refine ⟨ao, cap, by rw [hl], by omega, h2, fun n x hx => ?_⟩
  have : n < i := by
    have := (List.getElem?_eq_some_iff.1 hx).1
    omega
  rw [List.getElem?_take_of_lt this] at hx
  exact h3 n x hx

/-- What light tells. -/
def LightT (w : World) (lv : Value) (l : List Wc) (e : Ending) (w' : World) : Prop := w' = w ∧ ∃ ao cap k, lv = .slice ao l.length cap ∧ e = .returned (.slice ao k cap) ∧ k ≤ l.length ∧ LightL (l.take k)

set_option maxHeartbeats 1000000 in
theorem light_of (l : List Wc) (lv : Value) (w : World) (hA : Wv w lv l) (hsz : ∀ x ∈ l, x.b.length ≤ 4611686018427387) : Calls Tryz.prog 6 #[lv] w (LightT w lv l) := by
  obtain ⟨ao, cap, rfl, h0, h1, h2⟩ := id hA
  have hcm : (cap : Int) ≤ 9223372036854775807 := by unfold maxLen at h1; omega
  have E : ∀ i, i ≤ l.length → i ≤ 80 → totB (l.take i) ≤ 40000 → Hid (LightT w (.slice ao l.length cap) l (.returned (.slice ao i cap)) w) := fun i h3 h4 h5 => ⟨rfl, ao, cap, i, rfl, rfl, h3, by rw [List.length_take]; omega, h5⟩
  generalize LightT w (.slice ao l.length cap) l = T at *
  clear hA
  go_enter Tryz.func6, Tryz.ntmps6
  go_wp2
  go_loopg [3, 4] l.length (fun g s3 s4 wr => ∃ i n : Nat, i + g = l.length ∧ s4 = .int .i64 (i : Int) ∧ s3 = .int .i64 (n : Int) ∧ i ≤ 80 ∧ n ≤ 40000 ∧ Hid (n = totB (l.take i)) ∧ wr = w)
  case atStart => exact ⟨0, 0, by simp, rfl, rfl, by omega, by omega, rfl, rfl⟩
  case round =>
    obtain ⟨i, n, hi, rfl, rfl, hi8, hn, hT, rfl⟩ := hrel
    by_cases hlt : i < l.length
    · have hlti : (i : Int) < (l.length : Int) := by omega
      have hx : l[i]? = some l[i] := List.getElem?_eq_getElem hlt
      obtain ⟨b, off, vs, rfl, ⟨bv, cv, rfl, hB, _⟩, hc⟩ := h2 i l[i] hx
      have c3 := hc 3 bv rfl
      have hsn : totB (l.take (i + 1)) = totB (l.take i) + l[i].b.length := by rw [List.take_succ_eq_append_getElem hlt, totB_snoc]
      have hb3 := hsz l[i] (List.getElem_mem hlt)
      clear hsz
      generalize l[i] = x at *
      letI := keepAll
      obtain ⟨ab, cb, rfl, hb1, hb2, _⟩ := id hB
      have hz1 : (n : Int) + (x.b.length : Int) ≤ 9223372036854775807 := by omega
      have hE := E i (by omega) hi8 (by rw [← hT.out]; exact hn)
      have hic : (i : Int) ≤ (cap : Int) := by omega
      have hi0 : ¬ (i : Int) < 0 := by omega
      clear hx hc h2 hB
      by_cases h4 : 40000 < n + x.b.length
      · have h4i : (40000 : Int) < (n : Int) + (x.b.length : Int) := by omega
        clear E
        go_wp2
        all_goals first | exact hE.out | (go_ret; exact hE.out)
      · have h4i : ¬ (40000 : Int) < (n : Int) + (x.b.length : Int) := by omega
        by_cases h8 : 80 ≤ i
        · have h8i : (80 : Int) ≤ (i : Int) := by omega
          clear E
          go_wp2
          all_goals first | exact hE.out | (go_ret; exact hE.out)
        · have h8i : ¬ (80 : Int) ≤ (i : Int) := by omega
          have hT' : Hid (n + x.b.length = totB (l.take (i + 1))) := by show _ = _; rw [hsn, hT.out]
          clear E hE hsn
          go_wp2
          go_roundg (gk - 1)
          case measure => omega
          case rel => exact ⟨i + 1, n + x.b.length, by omega, by go_num, by go_num, by omega, by omega, hT', rfl⟩
    · have hlti : ¬ (i : Int) < (l.length : Int) := by omega
      have hE := E l.length (by omega) (by omega) (by rw [show l.length = i by omega, ← hT.out]; exact hn)
      clear E h2 hsz
      go_wp2
      all_goals first | exact hE.out | (go_ret; exact hE.out)
end Go.Proofs.YtgfoogeiancecaaGreatDoor

