import Derived.Test.YtoipjmjhplkibaaDoorQ14
import Derived.Test.YtoipjmjhplkibaaDoorQ07
import Derived.Lib.SliceRun
/- The contracts of bytes.Clone and crc.Open: the bytes behind their sum in memory of the call's own, or nothing. -/
namespace Go.Proofs.YtoipjmjhplkibaaDoor.Fr
open Go.RowKit CrcMath FrameMath
set_option maxRecDepth 100000
set_option linter.unusedSimpArgs false

theorem Bs.drop {n₀ : Nat} {w : World} {l : List Nat} {b off cap : Nat} (h : Bs n₀ w (.slice (some ⟨b, off, none⟩) l.length cap) l) (k : Nat) (hk : k ≤ l.length) :
    Bs n₀ w (.slice (if cap = k then some ⟨b, off, none⟩ else some ⟨b, off + k, none⟩) (l.length - k) (cap - k)) (l.drop k) := by
  obtain ⟨ao, cap', h1, h2, h3, h4, h5⟩ := h
  cases h1
  refine ⟨_, _, by rw [List.length_drop], by rw [List.length_drop]; omega, by omega, (fun h => by split at h <;> cases h), fun hne => ?_⟩
  have hne' : l ≠ [] := by rintro rfl; simp at hne
  have hlk : k < l.length := by
    rcases Nat.lt_or_ge k l.length with h | h
    · exact h
    · exact absurd (List.drop_eq_nil_of_le h) hne
  obtain ⟨b', off', e1, e2, e3⟩ := h5 hne'
  cases e1
  refine ⟨b, off + k, by rw [if_neg (by omega)], e2, fun j c hj => ?_⟩
  rw [List.getElem?_drop] at hj
  rw [Nat.add_assoc]
  exact e3 (k + j) c hj

theorem Bs.drewN {n₀ : Nat} {w : World} {v : Value} {l : List Nat} (h : Bs n₀ w v l) (k : Nat) : Bs n₀ (w.drewN k) v l := h
theorem Tab.drewN {w : World} (h : Tab w) (k : Nat) : Tab (w.drewN k) := h

theorem be4_iff (c0 c1 c2 c3 s : Nat) (k0 : c0 < 256) (k1 : c1 < 256) (k2 : c2 < 256) (k3 : c3 < 256) (hs : s < 4294967296) : c0 * 16777216 + c1 * 65536 + c2 * 256 + c3 = s ↔ [c0, c1, c2, c3] = be4 s := by
  simp only [be4, List.cons.injEq, and_true]
  omega

theorem take4 : ∀ (l : List Nat) (h : 4 ≤ l.length), l.take 4 = [l[0], l[1], l[2], l[3]]
  | _ :: _ :: _ :: _ :: _, _ => rfl

theorem open_short (n₀ : Nat) (l : List Nat) (v : Value) (w : World) (hB : Bs n₀ w v l) (h4 : l.length < 4) :
    Calls Tryd.prog 57 #[v] w fun e w' => e = .returned (.tuple #[.slice none 0 0, .bool false]) ∧ ∃ k, w' = w.drewN k := by
  obtain ⟨ao, cap, rfl, -⟩ := hB
  have h4i : (l.length : Int) < 4 := by omega
  go_enter Tryd.func57, Tryd.ntmps57
  go_wp2
  go_quiet (fail)
  go_wp2
  go_ret2
  exact ⟨rfl, nq, rfl⟩

set_option maxHeartbeats 1000000 in
theorem open_long (n₀ : Nat) (l : List Nat) (v : Value) (w : World) (hT : Tab w) (hB : Bs n₀ w v l) (hl : ∀ c ∈ l, c < 256) (hlen : l.length ≤ 140737488355328) (h4 : 4 ≤ l.length) (hne : ¬ l.take 4 = be4 (crcSum (l.drop 4))) :
    Calls Tryd.prog 57 #[v] w fun e w' => e = .returned (.tuple #[.slice none 0 0, .bool false]) ∧ ∃ k, w' = w.drewN k := by
  obtain ⟨ao, cap, rfl, h2, h3, h4', h5⟩ := id hB
  obtain ⟨b, off, rfl, -⟩ := h5 (by rintro rfl; simp at h4)
  have hd := hB.drop 4 h4
  have hld : ∀ c ∈ l.drop 4, c < 256 := fun c hc => hl c (List.mem_of_mem_drop hc)
  have ht : ∀ k, Calls Tryd.prog 68 #[_] (w.drewN k) _ := fun k => told_of n₀ l l[0] l[1] l[2] l[3] (List.getElem?_eq_getElem _) (List.getElem?_eq_getElem _) (List.getElem?_eq_getElem _) (List.getElem?_eq_getElem _) _ (w.drewN k) (hB.drewN k) hl
  have ho : ∀ k, Calls Tryd.prog 62 #[_] (w.drewN k) _ := fun k => of_of n₀ (l.drop 4) _ (w.drewN k) (hT.drewN k) (hd.drewN k) hld
  have h4i : ¬ (l.length : Int) < 4 := by omega
  have g4i : (4 : Int) ≤ (l.length : Int) := by omega
  have e4 : l.take 4 = [l[0], l[1], l[2], l[3]] := take4 l h4
  have hne1 := mt (be4_iff l[0] l[1] l[2] l[3] (crcSum (l.drop 4)) (hl _ (List.getElem_mem _)) (hl _ (List.getElem_mem _)) (hl _ (List.getElem_mem _)) (hl _ (List.getElem_mem _)) (crcSum_lt hld)).1 (by rw [← e4]; exact hne)
  generalize l[0] * 16777216 + l[1] * 65536 + l[2] * 256 + l[3] = t at ht hne1
  generalize crcSum (l.drop 4) = s at ho hne1
  have hne2 : ¬ (t : Int) = (s : Int) := by omega
  have hne3 : ((t : Int) != (s : Int)) = true := by simpa using hne2
  clear hB hd e4 hne h5 hT
  go_enter Tryd.func57, Tryd.ntmps57
  go_wp2
  go_quiet (first | (go_at_call 68; exact Calls.quiet_of (ht _)) | (go_at_call 62; exact Calls.quiet_of_same (ho _)))
  go_wp2
  all_goals go_ret2
  all_goals exact ⟨rfl, nq, rfl⟩

set_option maxHeartbeats 1000000 in
theorem open_right (n₀ : Nat) (l : List Nat) (v : Value) (w : World) (hT : Tab w) (hB : Bs n₀ w v l) (hl : ∀ c ∈ l, c < 256) (hn₀ : n₀ ≤ w.heap.size) (hlen : l.length ≤ 140737488355328) (h4 : 4 ≤ l.length) (heq : l.take 4 = be4 (crcSum (l.drop 4))) :
    Calls Tryd.prog 57 #[v] w fun e w' => ∃ v', e = .returned (.tuple #[v', .bool true]) ∧ Own w.heap.size w' v' (l.drop 4) ∧ Below w.heap.size w w' := by
  obtain ⟨ao, cap, rfl, h2, h3, h4', h5⟩ := id hB
  obtain ⟨b, off, rfl, -⟩ := h5 (by rintro rfl; simp at h4)
  have hd := hB.drop 4 h4
  have hld : ∀ c ∈ l.drop 4, c < 256 := fun c hc => hl c (List.mem_of_mem_drop hc)
  have ht : ∀ k, Calls Tryd.prog 68 #[_] (w.drewN k) _ := fun k => told_of n₀ l l[0] l[1] l[2] l[3] (List.getElem?_eq_getElem _) (List.getElem?_eq_getElem _) (List.getElem?_eq_getElem _) (List.getElem?_eq_getElem _) _ (w.drewN k) (hB.drewN k) hl
  have ho : ∀ k, Calls Tryd.prog 62 #[_] (w.drewN k) _ := fun k => of_of n₀ (l.drop 4) _ (w.drewN k) (hT.drewN k) (hd.drewN k) hld
  have h4i : ¬ (l.length : Int) < 4 := by omega
  have g4i : (4 : Int) ≤ (l.length : Int) := by omega
  have e4 : l.take 4 = [l[0], l[1], l[2], l[3]] := take4 l h4
  have hne1 := (be4_iff l[0] l[1] l[2] l[3] (crcSum (l.drop 4)) (hl _ (List.getElem_mem _)) (hl _ (List.getElem_mem _)) (hl _ (List.getElem_mem _)) (hl _ (List.getElem_mem _)) (crcSum_lt hld)).2 (by rw [← e4]; exact heq)
  rw [hne1] at ht
  generalize crcSum (l.drop 4) = s at ho ht
  have hlen' : (l.drop 4).length ≤ 140737488355328 := by rw [List.length_drop]; omega
  clear hB e4 heq h5 hT hne1
  generalize l.drop 4 = r at hd hlen' ⊢
  have hcl : ∃ a, (if cap = 4 then some (⟨b, off, none⟩ : Addr) else some ⟨b, off + 4, none⟩) = some a := by split <;> exact ⟨_, rfl⟩
  obtain ⟨a, ha⟩ := hcl
  have hc : ∀ k, Calls Tryd.prog 17 #[_] (w.drewN k) _ := fun k => clone_of n₀ r (.slice (some a) (l.length - 4) (cap - 4)) (w.drewN k) (by rw [← ha]; exact hd.drewN k) hn₀ hlen'
  rw [ha] at ho
  clear hd
  go_enter Tryd.func57, Tryd.ntmps57
  go_wp2
  go_quiet (first | (go_at_call 68; exact Calls.quiet_of (ht _)) | (go_at_call 62; exact Calls.quiet_of_same (ho _)))
  go_wp2_with fail
  refine (hc _).mono ?_
  rintro e w1 ⟨v', rfl, hO, hb⟩
  go_wp2
  go_ret2
  exact ⟨v', rfl, hO, (below_drewN (Below.refl _ _) _).trans hb⟩
end Go.Proofs.YtoipjmjhplkibaaDoor.Fr

/- Bytes as a text: what string(b) is where b's cells are known, and that unlike bytes are unlike texts. -/
namespace Go.Proofs.YtoipjmjhplkibaaDoor.Fr
open Go.RowKit CrcMath
set_option maxRecDepth 100000
set_option linter.unusedSimpArgs false

/-- Bytes as a text. -/
def str (l : List Nat) : ByteArray := ⟨(l.map UInt8.ofNat).toArray⟩

theorem str_nil (w : World) : (convert 22 9 (.slice none 0 0)).run Tryd.prog w = .ok (.string (str [])) w := by kernel_rfl

theorem str_of {n₀ : Nat} {w : World} {v : Value} {l : List Nat} (h : Bs n₀ w v l) (hl : ∀ c ∈ l, c < 256) :
    (convert 22 9 v).run Tryd.prog w = .ok (.string (str l)) w := by
  obtain ⟨ao, cap, rfl, h2, h3, h4, h5⟩ := h
  cases ao with
  | none =>
    have := h4 rfl
    obtain rfl : l = [] := List.eq_nil_of_length_eq_zero (by omega)
    obtain rfl : cap = 0 := by omega
    exact str_nil w
  | some ad =>
    have e := run_convert_bytes_back (P := Tryd.prog) w 22 9 5 ad cap (l.map UInt8.ofNat) Tryd.underlying22 Tryd.underlying5 Tryd.underlying9 ?_
    · rw [List.length_map] at e; exact e
    · intro j hj
      rw [List.length_map] at hj
      have hne : l ≠ [] := by rintro rfl; simp at hj
      obtain ⟨b, off, e1, _, e3⟩ := h5 hne
      obtain rfl := Option.some.inj e1
      have := e3 j l[j] (by simp [hj])
      have hc := hl l[j] (List.getElem_mem hj)
      rw [Addr.add_lit, this]
      simp only [List.getElem_map, UInt8.toNat_ofNat']
      rw [Nat.mod_eq_of_lt (by omega)]

theorem str_inj {l r : List Nat} (hl : ∀ c ∈ l, c < 256) (hr : ∀ c ∈ r, c < 256) (h : str l = str r) : l = r := by
  have h1 : l.map UInt8.ofNat = r.map UInt8.ofNat := by
    have := congrArg (fun x => x.data.toList) h
    simpa [str] using this
  have back : ∀ m : List Nat, (∀ c ∈ m, c < 256) → (m.map UInt8.ofNat).map UInt8.toNat = m := by
    intro m hm
    rw [List.map_map]
    conv => rhs; rw [← List.map_id m]
    apply List.map_congr_left
    intro c hc
    have := hm c hc
    simp [Nat.mod_eq_of_lt this]
  rw [← back l hl, ← back r hr, h1]
end Go.Proofs.YtoipjmjhplkibaaDoor.Fr

