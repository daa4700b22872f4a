/- What the bound on the arguments' bulk gives: the texts of a slice of causes have together no more letters than the bound; so a chain's whole text is short. -/
import Derived.Test.YtgffbicdfclcmaaDoorRows
import Derived.Test.YtgffbicdfclcmaaDoorRefText
namespace Go.Proofs.YtgffbicdfclcmaaDoor

/-- A cause as data. -/
def causeD {H : Type} (c : ByteArray × Int) : DataW H := .agg [.lit (.string c.1.data.toList), .lit (.int .i64 c.2)]

def opsSum (zs : List (ByteArray × Int)) : Nat := (zs.map fun c => c.1.size).sum

theorem bulk_causes {H : Type} (zs : List (ByteArray × Int)) : opsSum zs ≤ Rows.uptoBulkAll (zs.map (causeD (H := H))) := by
  induction zs with
  | nil => simp [opsSum]
  | cons c r ih =>
    simp only [List.map_cons, Rows.uptoBulkAll]
    have h1 : Rows.uptoBulk (causeD (H := H) c) = c.1.size + 3 := by
      simp only [causeD, Rows.uptoBulk, Rows.uptoBulkAll, bytes_len]
    rw [h1]
    simp only [opsSum, List.map_cons, List.sum_cons] at ih ⊢
    omega

theorem opsSum_take (zs : List (ByteArray × Int)) : ∀ k, opsSum (zs.take k) ≤ opsSum zs := by
  induction zs with
  | nil => intro k; simp [opsSum]
  | cons c r ih =>
    intro k
    cases k with
    | zero => simp [opsSum]
    | succ k =>
      have := ih k
      simp only [opsSum, List.take_succ_cons, List.map_cons, List.sum_cons] at this ⊢
      omega

theorem restB_le (zs : List (ByteArray × Int)) (hcs : ∀ c ∈ zs, c.2 ≤ 9223372036854775807) : ∀ fst, (restB fst zs none).length ≤ opsSum zs + 31 * zs.length := by
  induction zs with
  | nil => intro fst; simp [restB]
  | cons c r ih =>
    intro fst
    have h1 := ih (fun c' h => hcs c' (List.mem_cons_of_mem _ h)) false
    have h2 := codeText_length c.2 (hcs c (by simp))
    rw [restB_cons_len]
    simp only [opsSum, List.map_cons, List.sum_cons, List.length_cons] at h1 ⊢
    split <;> omega
end Go.Proofs.YtgffbicdfclcmaaDoor
