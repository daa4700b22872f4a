import Derived.Test.YtljfhafmedngnaaGreatDoorP17
import Derived.Test.YtljfhafmedngnaaGreatDoorP02
import Derived.Sort.Walk0
/- The contracts of the document's own Name and place: which names may be; which one a file is; nothing turns. -/
namespace Go.Proofs.YtljfhafmedngnaaGreatDoor
open Go.RowKit DiskMath
set_option maxRecDepth 100000
set_option linter.unusedSimpArgs false

set_option maxHeartbeats 1000000 in
theorem name_of (s : ByteArray) (w : World) : Calls Tryz.prog 67 #[.string s] w fun e w' => e = .returned (.bool (mayName s)) ∧ w' = w := by
  obtain ⟨B, HB⟩ : ∃ B, Hid (B = mayName s) := ⟨_, rfl⟩
  rw [← HB.out]
  by_cases h1 : s.size < 1
  · have E : Hid (B = false) := by
      show _ = _
      rw [HB.out]
      unfold mayName
      rw [decide_eq_false (by omega)]
      rfl
    have i1 : (s.size : Int) < 1 := by omega
    clear HB
    go_enter Tryz.func67, Tryz.ntmps67
    go_wp2
    go_ret
    exact ⟨by rw [E.out]; rfl, rfl⟩
  have i1 : ¬ (s.size : Int) < 1 := by omega
  by_cases h2 : 32 < s.size
  · have E : Hid (B = false) := by
      show _ = _
      rw [HB.out]
      unfold mayName
      rw [decide_eq_false (p := s.size ≤ 32) (by omega)]
      simp
    have i2 : (32 : Int) < (s.size : Int) := by omega
    clear HB
    go_enter Tryz.func67, Tryz.ntmps67
    go_wp2
    go_ret
    exact ⟨by rw [E.out]; rfl, rfl⟩
  have i2 : ¬ (32 : Int) < (s.size : Int) := by omega
  have EB : Hid (B = s.data.toList.all fun c => mayByte c.toNat) := by
    show _ = _
    rw [HB.out]
    unfold mayName
    rw [decide_eq_true (p := 1 ≤ s.size) (by omega), decide_eq_true (p := s.size ≤ 32) (by omega)]
    rfl
  clear HB
  go_enter Tryz.func67, Tryz.ntmps67
  go_wp2
  go_loopg [3] s.size (fun g s3 wr => ∃ i : Nat, i + g = s.size ∧ s3 = .int .i64 (i : Int) ∧ Hid (∀ (j : Nat) (c : UInt8), j < i → s.data.toList[j]? = some c → mayByte c.toNat = true) ∧ wr = w)
  case atStart => exact ⟨0, by simp, rfl, fun _ _ h => by omega, rfl⟩
  case round =>
    obtain ⟨i, hi, rfl, H, rfl⟩ := hrel
    by_cases hlt : i < s.size
    · have hlti : (i : Int) < (s.size : Int) := by omega
      have hsz : s.data.toList.length = s.size := rfl
      have hgi : s.data.toList[i]? = some s[i] := by
        rw [List.getElem?_eq_getElem (by omega)]
        rfl
      obtain ⟨c, hcv⟩ : ∃ c : Nat, s[i].toNat = c := ⟨_, rfl⟩
      have H' : mayByte c = true → Hid (∀ (j : Nat) (c : UInt8), j < i + 1 → s.data.toList[j]? = some c → mayByte c.toNat = true) := by
        intro hcb j x hj hx
        by_cases hji : j = i
        · subst hji
          rw [hgi] at hx
          cases hx
          rw [hcv]
          exact hcb
        · exact H.out j x (by omega) hx
      have hno : mayByte c = false → Hid (B = false) := by
        intro hcb
        show _ = _
        rw [EB.out, Bool.eq_false_iff]
        intro ha
        have := List.all_eq_true.1 ha s[i] (List.mem_of_getElem? hgi)
        rw [hcv, hcb] at this
        cases this
      clear hgi H hsz
      by_cases k1 : 97 ≤ c
      · have k1i : (97 : Int) ≤ (c : Int) := by omega
        by_cases k2 : c ≤ 122
        · have hcb : mayByte c = true := by unfold mayByte; simp; omega
          clear EB
          have y0 : (c : Int) ≤ 122 := by omega
          go_wp2
          go_roundg (gk - 1)
          case measure => omega
          case rel => exact ⟨i + 1, by omega, by go_num, H' hcb, rfl⟩
        · have hcb : mayByte c = false := by unfold mayByte; simp; omega
          have E : Hid (B = false) := hno hcb
          clear EB H' hno
          have y0 : ¬ (c : Int) ≤ 122 := by omega
          have y1 : (48 : Int) ≤ (c : Int) := by omega
          have y2 : ¬ (c : Int) ≤ 57 := by omega
          have y3 : ¬ (c : Int) = 46 := by omega
          have z46 : ((c : Int) == 46) = false := by simp; omega
          have y4 : ¬ (c : Int) = 45 := by omega
          have z45 : ((c : Int) == 45) = false := by simp; omega
          go_wp2
          go_ret
          exact ⟨by rw [E.out]; rfl, rfl⟩
      · have k1i : ¬ (97 : Int) ≤ (c : Int) := by omega
        by_cases k3 : 48 ≤ c
        · have k3i : (48 : Int) ≤ (c : Int) := by omega
          by_cases k2 : c ≤ 57
          · have hcb : mayByte c = true := by unfold mayByte; simp; omega
            clear EB
            have y0 : (c : Int) ≤ 57 := by omega
            go_wp2
            go_roundg (gk - 1)
            case measure => omega
            case rel => exact ⟨i + 1, by omega, by go_num, H' hcb, rfl⟩
          · have hcb : mayByte c = false := by unfold mayByte; simp; omega
            have E : Hid (B = false) := hno hcb
            clear EB H' hno
            have y0 : ¬ (c : Int) ≤ 57 := by omega
            have y1 : ¬ (c : Int) = 46 := by omega
            have z46 : ((c : Int) == 46) = false := by simp; omega
            have y2 : ¬ (c : Int) = 45 := by omega
            have z45 : ((c : Int) == 45) = false := by simp; omega
            go_wp2
            go_ret
            exact ⟨by rw [E.out]; rfl, rfl⟩
        · have k3i : ¬ (48 : Int) ≤ (c : Int) := by omega
          by_cases k4 : c = 46
          · have hcb : mayByte c = true := by unfold mayByte; simp; omega
            clear EB
            have y0 : (c : Int) = 46 := by omega
            go_wp2
            go_roundg (gk - 1)
            case measure => omega
            case rel => exact ⟨i + 1, by omega, by go_num, H' hcb, rfl⟩
          · by_cases k5 : c = 45
            · have hcb : mayByte c = true := by unfold mayByte; simp; omega
              clear EB
              have y0 : ¬ (c : Int) = 46 := by omega
              have z46 : ((c : Int) == 46) = false := by simp; omega
              have y1 : (c : Int) = 45 := by omega
              go_wp2
              go_roundg (gk - 1)
              case measure => omega
              case rel => exact ⟨i + 1, by omega, by go_num, H' hcb, rfl⟩
            · have hcb : mayByte c = false := by unfold mayByte; simp; omega
              have E : Hid (B = false) := hno hcb
              clear EB H' hno
              have y0 : ¬ (c : Int) = 46 := by omega
              have z46 : ((c : Int) == 46) = false := by simp; omega
              have y1 : ¬ (c : Int) = 45 := by omega
              have z45 : ((c : Int) == 45) = false := by simp; omega
              go_wp2
              go_ret
              exact ⟨by rw [E.out]; rfl, rfl⟩
    · have hlti : ¬ (i : Int) < (s.size : Int) := by omega
      have E : Hid (B = true) := by
        show _ = _
        rw [EB.out, List.all_eq_true]
        intro x hx
        obtain ⟨j, hj⟩ := List.mem_iff_getElem?.1 hx
        have hjl := (List.getElem?_eq_some_iff.1 hj).1
        have hsz : s.data.toList.length = s.size := rfl
        exact H.out j x (by omega) hj
      go_wp2
      go_ret
      exact ⟨by rw [E.out]; rfl, rfl⟩
end Go.Proofs.YtljfhafmedngnaaGreatDoor

/- Slices of files, as they are read and as they are made; the contracts of the document's own place and Read. -/
namespace Go.Proofs.YtljfhafmedngnaaGreatDoor
open Go.RowKit DiskMath
set_option maxRecDepth 100000
set_option linter.unusedSimpArgs false

/-- A slice of files, as it is read. -/
def Fv [Keep] (w : World) (lv : Value) (fs : Files) : Prop :=
  kBase ≤ w.heap.size ∧ ∃ ao cap, lv = .slice ao fs.length cap ∧ ∀ (i : Nat) (f : File), fs[i]? = some f → ∃ b off sv, ao = some ⟨b, off, none⟩ ∧ w.cell? ⟨b, off + i * 3, none⟩ = some (.string f.name) ∧ w.cell? ⟨b, off + i * 3 + 1, none⟩ = some sv ∧ w.cell? ⟨b, off + i * 3 + 2, none⟩ = some (.int .i64 (f.safe : Int)) ∧ Bs w.heap.size w sv f.data ∧ kOk b

theorem Fv.below [Keep] {w w' : World} {lv : Value} {fs : Files} (h : Fv w lv fs) (hb : Below w.heap.size w w') : Fv w' lv fs := by
  obtain ⟨h0, ao, cap, e, h2⟩ := h
  refine ⟨Nat.le_trans h0 hb.size, ao, cap, e, fun i f hf => ?_⟩
  obtain ⟨b, off, sv, r1, r2, r3, r4, r5, r6⟩ := h2 i f hf
  exact ⟨b, off, sv, r1, (hb.cell (p := ⟨b, off + i * 3, none⟩) (World.block_lt_of_cell? w _ r2)).trans r2, (hb.cell (p := ⟨b, off + i * 3 + 1, none⟩) (World.block_lt_of_cell? w _ r3)).trans r3, (hb.cell (p := ⟨b, off + i * 3 + 2, none⟩) (World.block_lt_of_cell? w _ r4)).trans r4, (r5.below hb).mono hb.size, r6⟩

theorem Fv.imp {K K' : Keep} {w : World} {lv : Value} {fs : Files} (h : @Fv K w lv fs) (hk : ∀ b, b < w.heap.size → @kOk K b → @kOk K' b) (hf : @kBase K' ≤ w.heap.size) : @Fv K' w lv fs := by
  obtain ⟨_, ao, cap, e, h2⟩ := h
  refine ⟨hf, ao, cap, e, fun i f hf => ?_⟩
  obtain ⟨b, off, sv, r1, r2, r3, r4, r5, r6⟩ := h2 i f hf
  exact ⟨b, off, sv, r1, r2, r3, r4, r5.imp hk, hk b (World.block_lt_of_cell? w _ r2) r6⟩

theorem toList_ne {a b : ByteArray} (h : a ≠ b) : (a.toList == b.toList) = false := by
  rw [beq_eq_false_iff_ne]
  intro e
  rw [ByteArray.toList_eq, ByteArray.toList_eq] at e
  exact h (ByteArray.ext (Array.toList_inj.1 e))

theorem get_first {fs : Files} {n : ByteArray} {i : Nat} {f : File} (hf : fs[i]? = some f) (hn : f.name = n) (hj : ∀ (j : Nat) (g : File), j < i → fs[j]? = some g → g.name ≠ n) : get fs n = some f := by
  unfold DiskMath.get
  rw [List.find?_eq_some_iff_getElem]
  have hi := (List.getElem?_eq_some_iff.1 hf).1
  have e : fs[i] = f := by rw [List.getElem?_eq_getElem hi] at hf; exact Option.some.inj hf
  refine ⟨by simpa using hn, i, hi, e, fun j hji => ?_⟩
  simpa using hj j fs[j] hji (List.getElem?_eq_getElem (by omega))

set_option maxHeartbeats 1000000 in
theorem place_of [Keep] (fs : Files) (n : ByteArray) (lv : Value) (w : World) (hF : Fv w lv fs) (hlen : fs.length ≤ 1000000) :
    Calls Tryz.prog 77 #[lv, .string n] w fun e w' => ((get fs n = none ∧ e = .returned (.int .i64 (-1))) ∨ ∃ (i : Nat) (f : File), fs[i]? = some f ∧ get fs n = some f ∧ e = .returned (.int .i64 (i : Int))) ∧ w' = w := by
  obtain ⟨-, ao, cap, rfl, h2⟩ := id hF
  go_enter Tryz.func77, Tryz.ntmps77
  go_wp2
  go_loopg [5] fs.length (fun g s5 wr => ∃ i : Nat, i + g = fs.length ∧ s5 = .int .i64 (i : Int) ∧ Hid (∀ (j : Nat) (g : File), j < i → fs[j]? = some g → g.name ≠ n) ∧ wr = w)
  case atStart => exact ⟨0, by simp, rfl, fun _ _ h => by omega, rfl⟩
  case round =>
    obtain ⟨i, hi, rfl, H, rfl⟩ := hrel
    by_cases hlt : i < fs.length
    · have hlti : (i : Int) < (fs.length : Int) := by omega
      have hx : fs[i]? = some fs[i] := List.getElem?_eq_getElem hlt
      obtain ⟨b, off, sv, rfl, c0, c1, c2, hBs, -⟩ := h2 i fs[i] hx
      by_cases hn : fs[i].name = n
      · have E : Hid (get fs n = some fs[i]) := get_first hx hn H.out
        have hxH : Hid (fs[i]? = some fs[i]) := hx
        rw [hn] at c0
        have hst : (n.toList == n.toList) = true := by simp
        clear h2 hF H hx
        generalize fs[i] = f at *
        go_wp2
        go_ret
        exact ⟨.inr ⟨i, f, hxH.out, E.out, rfl⟩, rfl⟩
      · have hst := toList_ne hn
        have H' : Hid (∀ (j : Nat) (g : File), j < i + 1 → fs[j]? = some g → g.name ≠ n) := by
          intro j g hj hg
          by_cases hji : j = i
          · subst hji
            rw [hx] at hg
            cases hg
            exact hn
          · exact H.out j g (by omega) hg
        clear h2 hF H hx
        generalize fs[i] = f at *
        go_wp2
        go_roundg (gk - 1)
        case measure => omega
        case rel => exact ⟨i + 1, by omega, by go_num, H', rfl⟩
    · have hlti : ¬ (i : Int) < (fs.length : Int) := by omega
      have E : Hid (get fs n = none) := by
        show _ = _
        rw [get_none]
        intro f hf
        obtain ⟨j, hj⟩ := List.mem_iff_getElem?.1 hf
        have hjl := (List.getElem?_eq_some_iff.1 hj).1
        exact H.out j f (by omega) hj
      clear h2 hF H
      go_wp2
      go_ret
      exact ⟨.inl ⟨E.out, rfl⟩, rfl⟩
end Go.Proofs.YtljfhafmedngnaaGreatDoor

/- Files in a row of one's own; the contracts of the document's own Read, put and out. -/
namespace Go.Proofs.YtljfhafmedngnaaGreatDoor
open Go.RowKit DiskMath
set_option maxRecDepth 100000
set_option linter.unusedSimpArgs false

theorem infoFile : (Tryz.prog.info? 54).map (fun i => (i.zero, i.size, i.bytes)) = some (some (.agg #[.string ByteArray.empty, .slice none 0 0, .int .i64 0]), 3, 48) := by kernel_rfl

/-- Files as cells. -/
def fcells : Files → List Value → List Value
  | f :: fs, sv :: cs => .string f.name :: sv :: .int .i64 (f.safe : Int) :: fcells fs cs
  | _, _ => []
theorem fcells_append (y : File) (u : Value) : ∀ (fs : Files) (cs : List Value), cs.length = fs.length → fcells (fs ++ [y]) (cs ++ [u]) = fcells fs cs ++ [.string y.name, u, .int .i64 (y.safe : Int)]
  | [], [], _ => rfl
  | x :: fs, sv :: cs, h => by
    simp only [List.cons_append, fcells]
    rw [fcells_append y u fs cs (by simpa using h)]
  | [], _ :: _, h => by simp at h
  | _ :: _, [], h => by simp at h
theorem fcells_get : ∀ (fs : Files) (cs : List Value) (i : Nat) (x : File) (sv : Value), fs[i]? = some x → cs[i]? = some sv → (fcells fs cs)[3 * i]? = some (.string x.name) ∧ (fcells fs cs)[3 * i + 1]? = some sv ∧ (fcells fs cs)[3 * i + 2]? = some (.int .i64 (x.safe : Int))
  | [], _, i, x, sv, h, _ => by simp at h
  | _ :: _, [], i, x, sv, _, h => by simp at h
  | y :: fs, u :: cs, 0, x, sv, h, h' => by
    simp only [List.getElem?_cons_zero, Option.some.injEq] at h h'
    subst h h'
    exact ⟨rfl, rfl, rfl⟩
  | y :: fs, u :: cs, i + 1, x, sv, h, h' => by
    obtain ⟨h1, h2, h3⟩ := fcells_get fs cs i x sv (by simpa using h) (by simpa using h')
    refine ⟨?_, ?_, ?_⟩
    · rw [show 3 * (i + 1) = 3 * i + 1 + 1 + 1 by omega]
      simpa [fcells] using h1
    · rw [show 3 * (i + 1) + 1 = 3 * i + 1 + 1 + 1 + 1 by omega]
      simpa [fcells] using h2
    · rw [show 3 * (i + 1) + 2 = 3 * i + 2 + 1 + 1 + 1 by omega]
      simpa [fcells] using h3

/-- Files at ov, their row in memory from block n₀ on. -/
def Fo [Keep] (n₀ : Nat) (w : World) (ov : Value) (fs : Files) : Prop :=
  ∃ cs, w.ownsRow n₀ 54 3 ov fs.length (fcells fs cs) ∧ Els 0 w (fun k => ov.ownBlock = some k) cs (fs.map Fl.data) ∧ kBase ≤ n₀ ∧ n₀ ≤ w.heap.size

theorem Fo.below [Keep] {n₀ : Nat} {w w' : World} {ov : Value} {fs : Files} (h : Fo n₀ w ov fs) (hb : Below w.heap.size w w') : Fo n₀ w' ov fs := by
  obtain ⟨cs, h1, h2, h3, h4⟩ := h
  exact ⟨cs, ownsRow_below h1 hb, h2.below hb, h3, Nat.le_trans h4 hb.size⟩
theorem Fo.shape [Keep] {n₀ : Nat} {w : World} {ov : Value} {fs : Files} (h : Fo n₀ w ov fs) : ∃ ao cap, ov = .slice ao fs.length cap := by
  obtain ⟨cs, ⟨_, ⟨r1, r2⟩ | ⟨g, cp, _, r1, _⟩⟩, _⟩ := h
  · exact ⟨none, 0, by rw [r1, r2]⟩
  · exact ⟨_, _, r1⟩
theorem Fo.none [Keep] (w : World) (hf : kBase ≤ w.heap.size) : Fo w.heap.size (w.alloc (.cells #[] 54)) (.slice (some ⟨w.heap.size, 0, none⟩) 0 0) [] :=
  ⟨[], World.ownsRow_made w #[] 0 (Nat.le_refl _) (Nat.zero_le _) rfl, Els.nil _ _ _, hf, by simp⟩
theorem Fo.fv [Keep] {n₀ : Nat} {w : World} {ov : Value} {fs : Files} (h : Fo n₀ w ov fs) : Fv w ov fs := by
  obtain ⟨ao, cap, e⟩ := h.shape
  obtain ⟨cs, h2, h4, h5, h6⟩ := h
  refine ⟨Nat.le_trans h5 h6, ao, cap, e, fun i x hx => ?_⟩
  have hi : i < fs.length := (List.getElem?_eq_some_iff.1 hx).1
  obtain ⟨g, cp, e2, _, hc⟩ := row_cell h2 (by omega)
  have hil : i < cs.length := by rw [h4.1, List.length_map]; exact hi
  have hsv := List.getElem?_eq_getElem hil
  obtain ⟨c1, c2, c3⟩ := fcells_get fs cs i x _ hx hsv
  rw [e] at e2
  simp only [Value.slice.injEq] at e2
  rw [Nat.mul_comm] at c1 c2 c3
  exact ⟨g, 0, cs[i], e2.1, hc _ _ c1, by rw [Nat.add_assoc]; exact hc _ _ c2, by rw [Nat.add_assoc]; exact hc _ _ c3, (h4.2 i _ x.data hsv (by simp [hx])).1, kNew g (Nat.le_trans h5 (World.ownsRow.lt h2 g (by rw [e, e2.1]; rfl)).1)⟩

/-- A file as a value. -/
def fval (f : File) (sv : Value) : Value := .agg #[.string f.name, sv, .int .i64 (f.safe : Int)]

set_option maxHeartbeats 1000000 in
theorem run_push_file [Keep] (w : World) (ty : TypeId) (n₀ : Nat) (ov : Value) (fs : Files) (f : File) (sv : Value) (hF : Fo n₀ w ov fs) (hn₀ : n₀ ≤ w.heap.size) (hlen : fs.length ≤ 1000000)
    (hB : Bs w.heap.size w sv f.data) (hk : f.data ≠ [] → ∀ k, sv.ownBlock = some k → k < w.heap.size ∧ ¬ ov.ownBlock = some k) :
    ∃ ov' w', (Builtin.append_ #[29, 29] ty #[ov, .slice (some ⟨w.heap.size, 0, none⟩) 1 1]).run Tryz.prog (w.alloc (.cells #[.string f.name, sv, .int .i64 (f.safe : Int)] 54)) = .ok ov' w' ∧ Fo n₀ w' ov' (fs ++ [f]) ∧ Below n₀ w w' := by
  obtain ⟨i0, hi, hz0, hz1, hz2⟩ := info_parts infoFile
  have hb1 := (Below.refl w.heap.size w).alloc (Nat.le_refl _) (.cells #[.string f.name, sv, .int .i64 (f.safe : Int)] 54)
  obtain ⟨cs, g2, g4, g5, g6⟩ := hF
  have h2 := ownsRow_below g2 hb1
  have h4 := g4.below hb1
  have hB1 := (hB.below hb1).mono hb1.size
  have hsz := hb1.size
  obtain ⟨ov', w', hrun, hO, hg, hfr⟩ := run_append_own2 (w.alloc (.cells #[.string f.name, sv, .int .i64 (f.safe : Int)] 54)) n₀ 29 ty 54 i0 _ 3 48 Tryz.underlying29 hi hz0 hz1 hz2 rfl (by decide) ov fs.length (fcells fs cs) h2
    ⟨w.heap.size, 0, none⟩ 1 1 [.string f.name, sv, .int .i64 (f.safe : Int)] rfl (by
      intro j u hj
      rw [Addr.add_lit, cells_of_block (heap_alloc_new w _), Nat.zero_add, ← Array.getElem?_toList]
      exact hj) (by
      intro u hu
      simp only [List.mem_cons, List.not_mem_nil, or_false] at hu
      rcases hu with rfl | rfl | rfl
      · rfl
      · exact hB.one
      · rfl) (by unfold maxLen; omega) (by omega) (Nat.le_trans hn₀ hsz)
  refine ⟨ov', w', hrun, ⟨cs ++ [sv], ?_, ?_, g5, Nat.le_trans g6 (Nat.le_trans hsz hg.size)⟩, ?_⟩
  · rw [List.length_append, fcells_append f sv fs cs (by rw [g4.1, List.length_map])]
    exact hO
  · rw [List.map_append]
    refine (h4.grown hg (fun k e => e) hfr).snoc ((hB1.grown2 hg (fun hne k hk' e => (hk hne k hk').2 e)).mono hg.size) ?_
    intro hne k hk'
    obtain ⟨q2, q3⟩ := hk hne k hk'
    refine ⟨Nat.zero_le _, Nat.lt_of_lt_of_le q2 (Nat.le_trans hsz hg.size), fun hor => ?_⟩
    rcases hfr k hor with hx' | hx'
    · exact q3 hx'
    · omega
  · exact (hb1.mono hn₀).trans ((Below.refl n₀ _).grown hg (Nat.le_trans hn₀ hsz) (fun k hk => (World.ownsRow.lt h2 k hk).1))

/-- append of a file behind one's own. -/
theorem wp_push_file [Keep] {w : World} {ops : Array Oper} {rest : List Oper} {o : Oper} {a : Act} {Q : Exit → Act → World → Prop} (hgd : o.guard = none) (s x : Operand)
    (ho : o.op = .call { callee := .builtin .append, args := #[s, x], argTypes := #[29, 29] })
    (n₀ : Nat) (ov : Value) (fs : Files) (f : File) (sv : Value) (hF : Fo n₀ w ov fs) (hn₀ : n₀ ≤ w.heap.size) (hlen : fs.length ≤ 1000000)
    (hB : Bs w.heap.size w sv f.data) (hk : f.data ≠ [] → ∀ k, sv.ownBlock = some k → k < w.heap.size ∧ ¬ ov.ownBlock = some k)
    (hs : a.eval s = ov) (hx : a.eval x = .slice (some ⟨w.heap.size, 0, none⟩) 1 1)
    (h : ∀ ov' w', Fo n₀ w' ov' (fs ++ [f]) → Below n₀ w w' → wpList Tryz.prog ops Q rest (a.put o.dst ov') w') : wpList Tryz.prog ops Q (o :: rest) a (w.alloc (.cells #[.string f.name, sv, .int .i64 (f.safe : Int)] 54)) := by
  obtain ⟨v', w', hrun, r1, r2⟩ := run_push_file w o.type n₀ ov fs f sv hF hn₀ hlen hB hk
  refine wpList_plain hgd fun K hK' => ?_
  unfold Oper.wp
  simp [execOp, ho, resolve, invoke, builtin, hs, hx, hrun, Result.andThen]
  exact hK' _ _ (h v' w' r1 r2)
end Go.Proofs.YtljfhafmedngnaaGreatDoor

