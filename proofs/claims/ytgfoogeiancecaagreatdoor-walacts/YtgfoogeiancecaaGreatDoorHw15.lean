import Derived.Test.YtgfoogeiancecaaGreatDoorHw14
import Derived.Test.YtgfoogeiancecaaGreatDoorHw01
/- The contracts of the document's own Name and place: which names may be; which one a file is; nothing turns. -/
namespace Go.Proofs.YtgfoogeiancecaaGreatDoor
open Go.RowKit DiskMath
set_option maxRecDepth 100000
set_option linter.unusedSimpArgs false

set_option maxHeartbeats 1000000 in
theorem name_of (s : ByteArray) (w : World) : Calls Tryz.prog 77 #[.string s] w fun e w' => e = .returned (.bool (mayName s)) ∧ w' = w := by
  obtain ⟨B, HB⟩ : ∃ B, Hid (B = mayName s) := ⟨_, rfl⟩
  rw [← HB.out]
  by_cases h1 : s.size < 1
  · have E : Hid (B = false) := by
      show _ = _
      rw [HB.out]
      unfold mayName
      rw [decide_eq_false (by omega)]
      rfl
    have i1 : (s.size : Int) < 1 := by omega
    clear HB
    go_enter Tryz.func77, Tryz.ntmps77
    go_wp2
    go_ret
    exact ⟨by rw [E.out]; rfl, rfl⟩
  have i1 : ¬ (s.size : Int) < 1 := by omega
  by_cases h2 : 32 < s.size
  · have E : Hid (B = false) := by
      show _ = _
      rw [HB.out]
      unfold mayName
      rw [decide_eq_false (p := s.size ≤ 32) (by omega)]
      simp
    have i2 : (32 : Int) < (s.size : Int) := by omega
    clear HB
    go_enter Tryz.func77, Tryz.ntmps77
    go_wp2
    go_ret
    exact ⟨by rw [E.out]; rfl, rfl⟩
  have i2 : ¬ (32 : Int) < (s.size : Int) := by omega
  have EB : Hid (B = s.data.toList.all fun c => mayByte c.toNat) := by
    show _ = _
    rw [HB.out]
    unfold mayName
    rw [decide_eq_true (p := 1 ≤ s.size) (by omega), decide_eq_true (p := s.size ≤ 32) (by omega)]
    rfl
  clear HB
  go_enter Tryz.func77, Tryz.ntmps77
  go_wp2
  go_loopg [3] s.size (fun g s3 wr => ∃ i : Nat, i + g = s.size ∧ s3 = .int .i64 (i : Int) ∧ Hid (∀ (j : Nat) (c : UInt8), j < i → s.data.toList[j]? = some c → mayByte c.toNat = true) ∧ wr = w)
  case atStart => exact ⟨0, by simp, rfl, fun _ _ h => by omega, rfl⟩
  case round =>
    obtain ⟨i, hi, rfl, H, rfl⟩ := hrel
    by_cases hlt : i < s.size
    · have hlti : (i : Int) < (s.size : Int) := by omega
      have hsz : s.data.toList.length = s.size := rfl
      have hgi : s.data.toList[i]? = some s[i] := by
        rw [List.getElem?_eq_getElem (by omega)]
        rfl
      obtain ⟨c, hcv⟩ : ∃ c : Nat, s[i].toNat = c := ⟨_, rfl⟩
      have H' : mayByte c = true → Hid (∀ (j : Nat) (c : UInt8), j < i + 1 → s.data.toList[j]? = some c → mayByte c.toNat = true) := by
        intro hcb j x hj hx
        by_cases hji : j = i
        · subst hji
          rw [hgi] at hx
          cases hx
          rw [hcv]
          exact hcb
        · exact H.out j x (by omega) hx
      have hno : mayByte c = false → Hid (B = false) := by
        intro hcb
        show _ = _
        rw [EB.out, Bool.eq_false_iff]
        intro ha
        have := List.all_eq_true.1 ha s[i] (List.mem_of_getElem? hgi)
        rw [hcv, hcb] at this
        cases this
      clear hgi H hsz
      by_cases k1 : 97 ≤ c
      · have k1i : (97 : Int) ≤ (c : Int) := by omega
        by_cases k2 : c ≤ 122
        · have hcb : mayByte c = true := by unfold mayByte; simp; omega
          clear EB
          have y0 : (c : Int) ≤ 122 := by omega
          go_wp2
          go_roundg (gk - 1)
          case measure => omega
          case rel => exact ⟨i + 1, by omega, by go_num, H' hcb, rfl⟩
        · have hcb : mayByte c = false := by unfold mayByte; simp; omega
          have E : Hid (B = false) := hno hcb
          clear EB H' hno
          have y0 : ¬ (c : Int) ≤ 122 := by omega
          have y1 : (48 : Int) ≤ (c : Int) := by omega
          have y2 : ¬ (c : Int) ≤ 57 := by omega
          have y3 : ¬ (c : Int) = 46 := by omega
          have z46 : ((c : Int) == 46) = false := by simp; omega
          have y4 : ¬ (c : Int) = 45 := by omega
          have z45 : ((c : Int) == 45) = false := by simp; omega
          go_wp2
          go_ret
          exact ⟨by rw [E.out]; rfl, rfl⟩
      · have k1i : ¬ (97 : Int) ≤ (c : Int) := by omega
        by_cases k3 : 48 ≤ c
        · have k3i : (48 : Int) ≤ (c : Int) := by omega
          by_cases k2 : c ≤ 57
          · have hcb : mayByte c = true := by unfold mayByte; simp; omega
            clear EB
            have y0 : (c : Int) ≤ 57 := by omega
            go_wp2
            go_roundg (gk - 1)
            case measure => omega
            case rel => exact ⟨i + 1, by omega, by go_num, H' hcb, rfl⟩
          · have hcb : mayByte c = false := by unfold mayByte; simp; omega
            have E : Hid (B = false) := hno hcb
            clear EB H' hno
            have y0 : ¬ (c : Int) ≤ 57 := by omega
            have y1 : ¬ (c : Int) = 46 := by omega
            have z46 : ((c : Int) == 46) = false := by simp; omega
            have y2 : ¬ (c : Int) = 45 := by omega
            have z45 : ((c : Int) == 45) = false := by simp; omega
            go_wp2
            go_ret
            exact ⟨by rw [E.out]; rfl, rfl⟩
        · have k3i : ¬ (48 : Int) ≤ (c : Int) := by omega
          by_cases k4 : c = 46
          · have hcb : mayByte c = true := by unfold mayByte; simp; omega
            clear EB
            have y0 : (c : Int) = 46 := by omega
            go_wp2
            go_roundg (gk - 1)
            case measure => omega
            case rel => exact ⟨i + 1, by omega, by go_num, H' hcb, rfl⟩
          · by_cases k5 : c = 45
            · have hcb : mayByte c = true := by unfold mayByte; simp; omega
              clear EB
              have y0 : ¬ (c : Int) = 46 := by omega
              have z46 : ((c : Int) == 46) = false := by simp; omega
              have y1 : (c : Int) = 45 := by omega
              go_wp2
              go_roundg (gk - 1)
              case measure => omega
              case rel => exact ⟨i + 1, by omega, by go_num, H' hcb, rfl⟩
            · have hcb : mayByte c = false := by unfold mayByte; simp; omega
              have E : Hid (B = false) := hno hcb
              clear EB H' hno
              have y0 : ¬ (c : Int) = 46 := by omega
              have z46 : ((c : Int) == 46) = false := by simp; omega
              have y1 : ¬ (c : Int) = 45 := by omega
              have z45 : ((c : Int) == 45) = false := by simp; omega
              go_wp2
              go_ret
              exact ⟨by rw [E.out]; rfl, rfl⟩
    · have hlti : ¬ (i : Int) < (s.size : Int) := by omega
      have E : Hid (B = true) := by
        show _ = _
        rw [EB.out, List.all_eq_true]
        intro x hx
        obtain ⟨j, hj⟩ := List.mem_iff_getElem?.1 hx
        have hjl := (List.getElem?_eq_some_iff.1 hj).1
        have hsz : s.data.toList.length = s.size := rfl
        exact H.out j x (by omega) hj
      go_wp2
      go_ret
      exact ⟨by rw [E.out]; rfl, rfl⟩
end Go.Proofs.YtgfoogeiancecaaGreatDoor

/- Slices of files, as they are read and as they are made; the contracts of the document's own place and Read. -/
namespace Go.Proofs.YtgfoogeiancecaaGreatDoor
open Go.RowKit DiskMath
set_option maxRecDepth 100000
set_option linter.unusedSimpArgs false

/-- A slice of files, as it is read. -/
def Fv [Keep] (w : World) (lv : Value) (fs : Files) : Prop :=
  kBase ≤ w.heap.size ∧ ∃ ao cap, lv = .slice ao fs.length cap ∧ ∀ (i : Nat) (f : File), fs[i]? = some f → ∃ b off sv, ao = some ⟨b, off, none⟩ ∧ w.cell? ⟨b, off + i * 3, none⟩ = some (.string f.name) ∧ w.cell? ⟨b, off + i * 3 + 1, none⟩ = some sv ∧ w.cell? ⟨b, off + i * 3 + 2, none⟩ = some (.int .i64 (f.safe : Int)) ∧ Bs w.heap.size w sv f.data ∧ kOk b

theorem Fv.below [Keep] {w w' : World} {lv : Value} {fs : Files} (h : Fv w lv fs) (hb : Below w.heap.size w w') : Fv w' lv fs := by
  obtain ⟨h0, ao, cap, e, h2⟩ := h
  refine ⟨Nat.le_trans h0 hb.size, ao, cap, e, fun i f hf => ?_⟩
  obtain ⟨b, off, sv, r1, r2, r3, r4, r5, r6⟩ := h2 i f hf
  exact ⟨b, off, sv, r1, (hb.cell (p := ⟨b, off + i * 3, none⟩) (World.block_lt_of_cell? w _ r2)).trans r2, (hb.cell (p := ⟨b, off + i * 3 + 1, none⟩) (World.block_lt_of_cell? w _ r3)).trans r3, (hb.cell (p := ⟨b, off + i * 3 + 2, none⟩) (World.block_lt_of_cell? w _ r4)).trans r4, (r5.below hb).mono hb.size, r6⟩

theorem Fv.imp {K K' : Keep} {w : World} {lv : Value} {fs : Files} (h : @Fv K w lv fs) (hk : ∀ b, b < w.heap.size → @kOk K b → @kOk K' b) (hf : @kBase K' ≤ w.heap.size) : @Fv K' w lv fs := by
  obtain ⟨_, ao, cap, e, h2⟩ := h
  refine ⟨hf, ao, cap, e, fun i f hf => ?_⟩
  obtain ⟨b, off, sv, r1, r2, r3, r4, r5, r6⟩ := h2 i f hf
  exact ⟨b, off, sv, r1, r2, r3, r4, r5.imp hk, hk b (World.block_lt_of_cell? w _ r2) r6⟩

theorem toList_ne {a b : ByteArray} (h : a ≠ b) : (a.toList == b.toList) = false := by
  rw [beq_eq_false_iff_ne]
  intro e
  rw [ByteArray.toList_eq, ByteArray.toList_eq] at e
  exact h (ByteArray.ext (Array.toList_inj.1 e))

theorem get_first {fs : Files} {n : ByteArray} {i : Nat} {f : File} (hf : fs[i]? = some f) (hn : f.name = n) (hj : ∀ (j : Nat) (g : File), j < i → fs[j]? = some g → g.name ≠ n) : get fs n = some f := by
  unfold DiskMath.get
  rw [List.find?_eq_some_iff_getElem]
  have hi := (List.getElem?_eq_some_iff.1 hf).1
  have e : fs[i] = f := by rw [List.getElem?_eq_getElem hi] at hf; exact Option.some.inj hf
  refine ⟨by simpa using hn, i, hi, e, fun j hji => ?_⟩
  simpa using hj j fs[j] hji (List.getElem?_eq_getElem (by omega))

set_option maxHeartbeats 1000000 in
theorem place_of [Keep] (fs : Files) (n : ByteArray) (lv : Value) (w : World) (hF : Fv w lv fs) (hlen : fs.length ≤ 1000000) :
    Calls Tryz.prog 64 #[lv, .string n] w fun e w' => ((get fs n = none ∧ e = .returned (.int .i64 (-1))) ∨ ∃ (i : Nat) (f : File), fs[i]? = some f ∧ get fs n = some f ∧ e = .returned (.int .i64 (i : Int))) ∧ w' = w := by
  obtain ⟨-, ao, cap, rfl, h2⟩ := id hF
  go_enter Tryz.func64, Tryz.ntmps64
  go_wp2
  go_loopg [5] fs.length (fun g s5 wr => ∃ i : Nat, i + g = fs.length ∧ s5 = .int .i64 (i : Int) ∧ Hid (∀ (j : Nat) (g : File), j < i → fs[j]? = some g → g.name ≠ n) ∧ wr = w)
  case atStart => exact ⟨0, by simp, rfl, fun _ _ h => by omega, rfl⟩
  case round =>
    obtain ⟨i, hi, rfl, H, rfl⟩ := hrel
    by_cases hlt : i < fs.length
    · have hlti : (i : Int) < (fs.length : Int) := by omega
      have hx : fs[i]? = some fs[i] := List.getElem?_eq_getElem hlt
      obtain ⟨b, off, sv, rfl, c0, c1, c2, hBs, -⟩ := h2 i fs[i] hx
      by_cases hn : fs[i].name = n
      · have E : Hid (get fs n = some fs[i]) := get_first hx hn H.out
        have hxH : Hid (fs[i]? = some fs[i]) := hx
        rw [hn] at c0
        have hst : (n.toList == n.toList) = true := by simp
        clear h2 hF H hx
        generalize fs[i] = f at *
        go_wp2
        go_ret
        exact ⟨.inr ⟨i, f, hxH.out, E.out, rfl⟩, rfl⟩
      · have hst := toList_ne hn
        have H' : Hid (∀ (j : Nat) (g : File), j < i + 1 → fs[j]? = some g → g.name ≠ n) := by
          intro j g hj hg
          by_cases hji : j = i
          · subst hji
            rw [hx] at hg
            cases hg
            exact hn
          · exact H.out j g (by omega) hg
        clear h2 hF H hx
        generalize fs[i] = f at *
        go_wp2
        go_roundg (gk - 1)
        case measure => omega
        case rel => exact ⟨i + 1, by omega, by go_num, H', rfl⟩
    · have hlti : ¬ (i : Int) < (fs.length : Int) := by omega
      have E : Hid (get fs n = none) := by
        show _ = _
        rw [get_none]
        intro f hf
        obtain ⟨j, hj⟩ := List.mem_iff_getElem?.1 hf
        have hjl := (List.getElem?_eq_some_iff.1 hj).1
        exact H.out j f (by omega) hj
      clear h2 hF H
      go_wp2
      go_ret
      exact ⟨.inl ⟨E.out, rfl⟩, rfl⟩
end Go.Proofs.YtgfoogeiancecaaGreatDoor

