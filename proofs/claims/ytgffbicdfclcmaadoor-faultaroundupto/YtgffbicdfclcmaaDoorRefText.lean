/- The contract of the document's own Text over any slice of causes: the text, and that what lay in memory before stays as it was. -/
import Derived.Test.YtgffbicdfclcmaaDoorText
import Derived.Test.YtgffbicdfclcmaaDoorDigits
import Derived.Test.YtgffbicdfclcmaaDoorBack
import Derived.Deep.RegionWith
namespace Go.Proofs.YtgffbicdfclcmaaDoor
open Go.RowKit
set_option maxRecDepth 100000
set_option linter.unusedSimpArgs false

/-- The text of one cause. -/
def oneB (c : ByteArray × Int) : List UInt8 := c.1.data.toList ++ ([32, 40] ++ (codeText c.2 ++ [41]))

theorem restB_snoc (c : ByteArray × Int) : ∀ (fst : Bool) (l : List (ByteArray × Int)), restB fst (l ++ [c]) none = restB fst l none ++ ((if fst && l.isEmpty then [] else [58, 32]) ++ oneB c)
  | fst, [] => by cases fst <;> simp [restB, oneB]
  | fst, d :: r => by
    have := restB_snoc c false r
    rw [List.cons_append, restB, restB, this]
    simp

theorem take_snoc' (zs : List (ByteArray × Int)) (k : Nat) (h : k < zs.length) : zs.take (k + 1) = zs.take k ++ [zs[k]] := List.take_succ_eq_append_getElem h

theorem restB_take_le (zs : List (ByteArray × Int)) (fst : Bool) : ∀ k, (restB fst (zs.take k) none).length ≤ (restB fst zs none).length := by
  induction zs generalizing fst with
  | nil => intro k; simp
  | cons c r ih =>
    intro k
    cases k with
    | zero => simp [restB]
    | succ k =>
      rw [List.take_succ_cons, restB_cons_len, restB_cons_len]
      have := ih false k
      omega

theorem str_first (acc : List UInt8) (op : ByteArray) (co : Int) : (⟨acc.toArray⟩ ++ op ++ ⟨#[32, 40]⟩ ++ ⟨(codeText co).toArray⟩ ++ ⟨#[41]⟩ : ByteArray) = ⟨(acc ++ oneB (op, co)).toArray⟩ := by
  simp [ByteArray.ext_iff, oneB]
theorem str_next (acc : List UInt8) (op : ByteArray) (co : Int) : (⟨acc.toArray⟩ ++ ⟨#[58, 32]⟩ ++ op ++ ⟨#[32, 40]⟩ ++ ⟨(codeText co).toArray⟩ ++ ⟨#[41]⟩ : ByteArray) = ⟨(acc ++ ([58, 32] ++ oneB (op, co))).toArray⟩ := by
  simp [ByteArray.ext_iff, oneB]

set_option maxHeartbeats 4000000 in
theorem refText_of (n₀ : Nat) (zs : List (ByteArray × Int)) (a : Option Addr) (len cap : Nat) (w : World) (hC : Causes n₀ w (.slice a len cap) zs) (hn₀ : n₀ ≤ w.heap.size) (hm : len ≤ 1000000)
    (hcs : ∀ c ∈ zs, c.2 ≤ 9223372036854775807) (hlen : (restB true zs none).length ≤ 140737488355328) :
    Calls Tryd.prog 13 #[.slice a len cap] w fun e w' => e = .returned (.string ⟨(restB true zs none).toArray⟩) ∧ Below w.heap.size w w' := by
  obtain ⟨_, _, h1, rfl⟩ | ⟨b, off, c, h1, hb, hc⟩ := hC
  · cases h1
    go_enter Tryd.func13, Tryd.ntmps13
    go_wp2
    refine wp_loop_rounds 1 ?_
    rw [rounds_succ]
    go_wp2
    go_ret
    exact ⟨ret_string rfl, Below.refl _ _⟩
  cases h1
  go_enter Tryd.func13, Tryd.ntmps13
  go_wp2
  go_loopg [3, 4] zs.length (fun g s3 s4 wr => ∃ k : Nat, k + g = zs.length ∧ s4 = .int .i64 (k : Int) ∧ s3 = .string ⟨(restB true (zs.take k) none).toArray⟩ ∧ Below w.heap.size w wr)
  case atStart => exact ⟨0, by simp, rfl, rfl, Below.refl _ _⟩
  case round =>
    obtain ⟨k, hk, rfl, rfl, hB⟩ := hrel
    have hal := restB_take_le zs true k
    by_cases hlt : k < zs.length
    · have hcx := hc k hlt
      have hcc := hcs zs[k] (List.getElem_mem hlt)
      have hctl := codeText_length zs[k].2 hcc
      have E : Hid (restB true (zs.take (k + 1)) none = restB true (zs.take k) none ++ ((if true && (zs.take k).isEmpty then [] else [58, 32]) ++ oneB zs[k])) := by
        show _ = _
        rw [take_snoc' zs k hlt, restB_snoc]
      have hopl : zs[k].1.size ≤ 140737488355328 := by
        have h1 := restB_take_le zs true (k + 1)
        rw [E.out] at h1
        simp only [List.length_append, oneB, bytes_len] at h1
        omega
      have hd0 := (hB.cell (p := ⟨b, off + k * 2, none⟩) (by show b < _; omega)).trans hcx.1
      have hd1 := (hB.cell (p := ⟨b, off + k * 2 + 1, none⟩) (by show b < _; omega)).trans hcx.2
      generalize hop : zs[k].1 = op at *
      generalize hco : zs[k].2 = co at *
      generalize hacc : restB true (zs.take k) none = acc at *
      have hlt' : (k : Int) < (zs.length : Int) := by omega
      have hbw : b < wr.heap.size := by have := hB.size; omega
      have hafter : ∀ w', Below wr.drew.heap.size wr.drew w' → w'.cell? ⟨b, off + k * 2, none⟩ = some (.string op) ∧ Below w.heap.size w w' := fun w' hb' =>
        ⟨(hb'.cell (p := ⟨b, off + k * 2, none⟩) hbw).trans hd0, hB.trans ((Below.drew (Below.refl wr.heap.size wr)).trans hb' |>.mono hB.size)⟩
      have hP : ∀ W : World, Calls Tryd.prog 24 #[.int .i64 co] W fun e w' => e = .returned (.string ⟨(codeText co).toArray⟩) ∧ Below W.heap.size W w' := fun W => plain_of co W hcc
      by_cases hk0 : k = 0
      · have E' : Hid (restB true (zs.take (k + 1)) none = acc ++ oneB (op, co)) := by
          show _ = _
          rw [E.out]
          subst hk0
          simp only [List.take_zero, List.isEmpty_nil, Bool.and_self, if_true, List.nil_append]
          rw [← hop, ← hco]
        have hk1 : (k : Int) ≤ 0 := by omega
        clear E hcx hcs hc hk0
        go_wp2
        go_region_with (go_at_call 24; refine (hP _).mono ?_; rintro e w' ⟨rfl, hb'⟩; obtain ⟨hf0, hB'⟩ := hafter _ hb')
        all_goals go_wp2
        all_goals
          go_roundg (gk - 1)
          case measure => omega
          case rel => exact ⟨k + 1, by omega, by go_num, by rw [E'.out, str_first], hB'⟩
      · have E' : Hid (restB true (zs.take (k + 1)) none = acc ++ ([58, 32] ++ oneB (op, co))) := by
          show _ = _
          rw [E.out]
          have hne : (zs.take k).isEmpty = false := by
            cases zs with
            | nil => simp at hlt
            | cons z r =>
              cases k with
              | zero => exact absurd rfl hk0
              | succ k => rfl
          rw [hne]
          simp only [Bool.and_false, Bool.false_eq_true, if_false]
          rw [← hop, ← hco]
        have hk1 : (0 : Int) < (k : Int) := by omega
        clear E hcx hcs hc hk0
        go_wp2
        go_region_with (go_at_call 24; refine (hP _).mono ?_; rintro e w' ⟨rfl, hb'⟩; obtain ⟨hf0, hB'⟩ := hafter _ hb')
        all_goals go_wp2
        all_goals
          go_roundg (gk - 1)
          case measure => omega
          case rel => exact ⟨k + 1, by omega, by go_num, by rw [E'.out, str_next], hB'⟩
    · have hk' : k = zs.length := by omega
      have E : Hid (restB true (zs.take k) none = restB true zs none) := by show _ = _; rw [hk', List.take_length]
      clear hk' hc hcs
      go_wp2
      go_ret
      exact ⟨ret_string (by rw [E.out]), hB⟩
end Go.Proofs.YtgffbicdfclcmaaDoor
