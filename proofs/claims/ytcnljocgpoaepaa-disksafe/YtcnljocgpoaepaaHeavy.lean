/- The contract of heavy: how many bytes the first 400 acts bring. -/
import Derived.Test.YtcnljocgpoaepaaOpenA
namespace Go.Proofs.Ytcnljocgpoaepaa
open Go.RowKit DiskMath
set_option maxRecDepth 100000
set_option linter.unusedSimpArgs false

/-- The bytes of acts. -/
def bytesOf (l : List Ac) : Nat := (l.map fun x => x.b.length).sum
theorem bytesOf_cons (x : Ac) (l : List Ac) : bytesOf (x :: l) = x.b.length + bytesOf l := by simp [bytesOf]
/-- What heavy tells. -/
def HeavyT (l : List Ac) (e : Ending) : Prop := ∃ B, e = .returned (.bool B) ∧ (B = true ↔ 262144 < bytesOf (l.take 400))

theorem bytesOf_mem : ∀ (l : List Ac) (x : Ac), x ∈ l → x.b.length ≤ bytesOf l
  | y :: l, x, h => by
    rw [bytesOf_cons]
    rcases List.mem_cons.1 h with rfl | h
    · omega
    · have := bytesOf_mem l x h
      omega

set_option maxHeartbeats 1000000 in
theorem heavy_of [Keep] (l : List Ac) (lv : Value) (w : World) (hA : Av w lv l) (hsz : ∀ x ∈ l, x.b.length ≤ 4611686018427387) :
    Calls Try.prog 10 #[lv] w fun e w' => HeavyT l e ∧ w' = w := by
  obtain ⟨ao, cap, rfl, h2⟩ := id hA
  obtain ⟨R, HR⟩ : ∃ R, Hid (R = bytesOf (l.take 400)) := ⟨_, rfl⟩
  go_enter Try.func10, Try.ntmps10
  go_wp2
  go_loopg [3, 4] 400 (fun g s3 s4 wr => ∃ i n : Nat, i + g = 400 ∧ s4 = .int .i64 (i : Int) ∧ s3 = .int .i64 (n : Int) ∧ n ≤ i * 4611686018427387 ∧ Hid (R = n + bytesOf ((l.take 400).drop i)) ∧ wr = w)
  case atStart => exact ⟨0, 0, by simp, rfl, rfl, by omega, by show _ = _; rw [HR.out]; simp, rfl⟩
  case round =>
    obtain ⟨i, n, hi, rfl, rfl, hn, E, rfl⟩ := hrel
    by_cases hlt : i < l.length
    · have hlti : (i : Int) < (l.length : Int) := by omega
      by_cases h4 : i < 400
      · have h4i : (i : Int) < 400 := by omega
        have hx : l[i]? = some l[i] := List.getElem?_eq_getElem hlt
        obtain ⟨b, off, vs, rfl, ⟨bv, cv, rfl, hB, _⟩, hc⟩ := h2 i l[i] hx
        have c3 := hc 3 bv rfl
        have hd : (l.take 400).drop i = l[i] :: (l.take 400).drop (i + 1) := by
          have hlt' : i < (l.take 400).length := by rw [List.length_take]; omega
          rw [List.drop_eq_getElem_cons hlt', List.getElem_take]
        rw [hd, bytesOf_cons] at E
        have hb3 := hsz l[i] (List.getElem_mem hlt)
        clear hsz
        generalize l[i] = x at *
        obtain ⟨ab, cb, rfl, hb1, hb2, _⟩ := id hB
        have E' : Hid (R = (n + x.b.length) + bytesOf ((l.take 400).drop (i + 1))) := by show _ = _; rw [E.out]; omega
        have hz1 : (n : Int) + (x.b.length : Int) ≤ 9223372036854775807 := by omega
        clear hx hc h2 hA E hd HR
        go_wp2
        go_roundg (gk - 1)
        case measure => omega
        case rel => exact ⟨i + 1, n + x.b.length, by omega, by go_num, by go_num, by omega, E', rfl⟩
      · have h4i : ¬ (i : Int) < 400 := by omega
        have E' : Hid (R = n) := by show _ = _; rw [E.out, List.drop_eq_nil_of_le (by rw [List.length_take]; omega)]; simp [bytesOf]
        clear h2 hA E hsz
        go_wp2
        go_ret
        refine ⟨⟨_, rfl, ?_⟩, rfl⟩
        rw [← HR.out, E'.out, decide_eq_true_iff]
        omega
    · have hlti : ¬ (i : Int) < (l.length : Int) := by omega
      have E' : Hid (R = n) := by show _ = _; rw [E.out, List.drop_eq_nil_of_le (by rw [List.length_take]; omega)]; simp [bytesOf]
      clear h2 hA E hsz
      go_wp2
      go_ret
      refine ⟨⟨_, rfl, ?_⟩, rfl⟩
      rw [← HR.out, E'.out, decide_eq_true_iff]
      omega
end Go.Proofs.Ytcnljocgpoaepaa
