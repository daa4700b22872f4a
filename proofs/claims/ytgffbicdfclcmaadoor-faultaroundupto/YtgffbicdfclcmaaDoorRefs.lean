/- The contracts of the law's cut and of the document's own Has and First over any slice of causes: the result, and that memory stays as it was. -/
import Derived.Test.YtgffbicdfclcmaaDoorBack
import Derived.Test.YtgffbicdfclcmaaDoorInner
namespace Go.Proofs.YtgffbicdfclcmaaDoor
open Go.RowKit
set_option maxRecDepth 100000
set_option linter.unusedSimpArgs false

set_option maxHeartbeats 1000000 in
theorem cut_of (n₀ : Nat) (zs : List (ByteArray × Int)) (a : Option Addr) (len cap : Nat) (w : World) (hC : Causes n₀ w (.slice a len cap) zs) (hcap : len ≤ cap) (hm : len ≤ 9223372036854775807) :
    Calls Tryd.prog 8 #[.slice a len cap] w fun e w' => ∃ a' len' cap', e = .returned (.slice a' len' cap') ∧ Causes n₀ w (.slice a' len' cap') (zs.take 200) ∧ w' = w := by
  by_cases h : len ≤ 200
  · have hz : zs.take 200 = zs := by
      rcases hC with ⟨_, _, h1, rfl⟩ | ⟨b, off, c, h1, _, _⟩
      · rfl
      · cases h1; exact List.take_of_length_le h
    rw [hz]
    go_enter Tryd.func8, Tryd.ntmps8
    go_wp2
    go_ret
    exact ⟨a, len, cap, rfl, hC, rfl⟩
  · obtain ⟨_, _, h1, _⟩ | ⟨b, off, c, h1, hb, hc⟩ := hC
    · cases h1; omega
    cases h1
    go_enter Tryd.func8, Tryd.ntmps8
    go_wp2
    go_ret
    have hl : (zs.take 200).length = 200 := by rw [List.length_take]; omega
    refine ⟨some ⟨b, off, none⟩, 200, cap, rfl, .inr ⟨b, off, cap, by rw [hl], hb, fun j hj => ?_⟩, rfl⟩
    have := hc j (by rw [hl] at hj; omega)
    rw [List.getElem_take]
    exact this

set_option maxHeartbeats 1000000 in
theorem refHas_of (n₀ : Nat) (zs : List (ByteArray × Int)) (a : Option Addr) (len cap : Nat) (n : Int) (w : World) (hC : Causes n₀ w (.slice a len cap) zs) (hm : len ≤ 1000000) :
    Calls Tryd.prog 16 #[.slice a len cap, .int .i64 n] w fun e w' => e = .returned (.bool (hasB zs none n)) ∧ w' = w := by
  obtain ⟨_, _, h1, rfl⟩ | ⟨b, off, c, h1, hb, hc⟩ := hC
  · cases h1
    go_enter Tryd.func16, Tryd.ntmps16
    go_wp2
    refine wp_loop_rounds 1 ?_
    rw [rounds_succ]
    go_wp2
    go_ret
    exact ⟨rfl, rfl⟩
  cases h1
  go_enter Tryd.func16, Tryd.ntmps16
  go_wp2
  go_loop [5] (fun i => ∃ k : Nat, k ≤ zs.length ∧ i = .int .i64 k ∧ Hid (hasB zs none n = hasB (zs.drop k) none n)) (fun i => zs.length - (intOf i).toNat)
  case atStart => exact ⟨0, Nat.zero_le _, rfl, rfl⟩
  case round =>
    obtain ⟨k, hk, rfl, H⟩ := hrel
    by_cases hlt : k < zs.length
    · have hcx := (hc k hlt).2
      have hdr := List.drop_eq_getElem_cons hlt
      cases hcn : (zs[k].2 == n)
      · have H' : Hid (hasB zs none n = hasB (zs.drop (k + 1)) none n) := by
          show _ = _
          rw [H.out, hdr]; exact hasB_cons_no (by simp at hcn; simpa using fun e => hcn e.symm)
        clear H hdr hc
        go_wp2
        go_round
        case rel => exact ⟨k + 1, by omega, by go_num, H'⟩
        case measure => simp [intOf]; omega
      · have H' : Hid (hasB zs none n = true) := by
          show _ = _
          rw [H.out, hdr]; exact hasB_cons_yes (by simp at hcn; simpa using hcn.symm)
        clear H hdr hc
        go_wp2
        go_ret
        exact ⟨ret_bool H'.out.symm, rfl⟩
    · have H' : Hid (hasB zs none n = false) := by
        show _ = _
        rw [H.out, List.drop_of_length_le (by omega)]; rfl
      clear H hc
      go_wp2
      go_ret
      exact ⟨ret_bool H'.out.symm, rfl⟩

set_option maxHeartbeats 1000000 in
theorem refFirst_of (n₀ : Nat) (zs : List (ByteArray × Int)) (a : Option Addr) (len cap : Nat) (w : World) (hC : Causes n₀ w (.slice a len cap) zs) (hm : len ≤ 1000000) :
    Calls Tryd.prog 19 #[.slice a len cap] w fun e w' => e = .returned (.int .i64 (firstI zs none)) ∧ w' = w := by
  obtain ⟨_, _, h1, rfl⟩ | ⟨b, off, c, h1, hb, hc⟩ := hC
  · cases h1
    go_enter Tryd.func19, Tryd.ntmps19
    go_wp2
    refine wp_loop_rounds 1 ?_
    rw [rounds_succ]
    go_wp2
    go_ret
    exact ⟨rfl, rfl⟩
  cases h1
  go_enter Tryd.func19, Tryd.ntmps19
  go_wp2
  go_loop [3] (fun i => ∃ k : Nat, k ≤ zs.length ∧ i = .int .i64 k ∧ Hid (firstI zs none = firstI (zs.drop k) none)) (fun i => zs.length - (intOf i).toNat)
  case atStart => exact ⟨0, Nat.zero_le _, rfl, rfl⟩
  case round =>
    obtain ⟨k, hk, rfl, H⟩ := hrel
    by_cases hlt : k < zs.length
    · have hcx := (hc k hlt).2
      have hdr := List.drop_eq_getElem_cons hlt
      by_cases h0 : zs[k].2 = 0
      · have hcn : (zs[k].2 == 0) = true := by simpa using h0
        have H' : Hid (firstI zs none = firstI (zs.drop (k + 1)) none) := by
          show _ = _
          rw [H.out, hdr, firstI, if_pos h0]
        clear H hdr hc h0
        go_wp2
        go_round
        case rel => exact ⟨k + 1, by omega, by go_num, H'⟩
        case measure => simp [intOf]; omega
      · have hcn : (zs[k].2 == 0) = false := by simpa using h0
        have H' : Hid (firstI zs none = zs[k].2) := by
          show _ = _
          rw [H.out, hdr, firstI, if_neg h0]
        clear H hdr hc h0
        go_wp2
        go_ret
        exact ⟨ret_i64 H'.out.symm, rfl⟩
    · have H' : Hid (firstI zs none = 0) := by
        show _ = _
        rw [H.out, List.drop_of_length_le (by omega)]; rfl
      clear H hc
      go_wp2
      go_ret
      exact ⟨ret_i64 H'.out.symm, rfl⟩
end Go.Proofs.YtgffbicdfclcmaaDoor
