/- The contract of the document's own May: which files may be, of files as they came in (how many are safe may be any number). -/
import Derived.Test.YtcnljocgpoaepaaPut
import Derived.BigQuiet
import Derived.Laws.Cover1
namespace Go.Proofs.Ytcnljocgpoaepaa
open Go.RowKit DiskMath
set_option maxRecDepth 100000
set_option linter.unusedSimpArgs false

/-- A file as it came in. -/
structure Raw where
  name : ByteArray
  data : List Nat
  safe : Int

/-- A slice of files that came in, as it is read. -/
def Rv [Keep] (w : World) (lv : Value) (rs : List Raw) : Prop :=
  ∃ ao cap, lv = .slice ao rs.length cap ∧ ∀ (i : Nat) (f : Raw), rs[i]? = some f → ∃ b off sv, ao = some ⟨b, off, none⟩ ∧ w.cell? ⟨b, off + i * 3, none⟩ = some (.string f.name) ∧ w.cell? ⟨b, off + i * 3 + 1, none⟩ = some sv ∧ w.cell? ⟨b, off + i * 3 + 2, none⟩ = some (.int .i64 f.safe) ∧ Bs w.heap.size w sv f.data

theorem Rv.below [Keep] {w w' : World} {lv : Value} {fs : List Raw} (h : Rv w lv fs) (hb : Below w.heap.size w w') : Rv w' lv fs := by
  obtain ⟨ao, cap, e, h2⟩ := h
  refine ⟨ao, cap, e, fun i f hf => ?_⟩
  obtain ⟨b, off, sv, r1, r2, r3, r4, r5⟩ := h2 i f hf
  exact ⟨b, off, sv, r1, (hb.cell (p := ⟨b, off + i * 3, none⟩) (World.block_lt_of_cell? w _ r2)).trans r2, (hb.cell (p := ⟨b, off + i * 3 + 1, none⟩) (World.block_lt_of_cell? w _ r3)).trans r3, (hb.cell (p := ⟨b, off + i * 3 + 2, none⟩) (World.block_lt_of_cell? w _ r4)).trans r4, (r5.below hb).mono hb.size⟩

/-- May a file stand behind another one (none: it is the first)? -/
def mayOne (p : Option ByteArray) (r : Raw) : Prop := mayName r.name = true ∧ r.data.length ≤ 65536 ∧ 0 ≤ r.safe ∧ r.safe ≤ (r.data.length : Int) ∧ ∀ q, p = some q → strOrd.lt q r.name
/-- May files be? -/
def mayFrom : Option ByteArray → List Raw → Prop
  | _, [] => True
  | p, r :: rs => mayOne p r ∧ mayFrom (some r.name) rs
def toFl (r : Raw) : File := ⟨r.name, r.data, r.safe.toNat⟩

theorem may_above : ∀ (rs : List Raw) (q : ByteArray), mayFrom (some q) rs → ∀ r ∈ rs, strOrd.lt q r.name
  | [], _, _, _, h => by cases h
  | x :: rs, q, hm, r, h => by
    have hqx := hm.1.2.2.2.2 q rfl
    rcases List.mem_cons.1 h with rfl | h
    · exact hqx
    · exact strOrd.tr _ _ _ hqx (may_above rs x.name hm.2 r h)
theorem may_rises : ∀ (rs : List Raw) (p : Option ByteArray), mayFrom p rs → Rises strOrd (rs.map toFl)
  | [], _, _ => trivial
  | x :: rs, p, hm => by
    refine ⟨fun g hg => ?_, may_rises rs _ hm.2⟩
    obtain ⟨r, hr, rfl⟩ := List.mem_map.1 hg
    exact may_above rs x.name hm.2 r hr
theorem may_each : ∀ (rs : List Raw) (p : Option ByteArray), mayFrom p rs → ∀ r ∈ rs, mayName r.name = true ∧ r.data.length ≤ 65536 ∧ 0 ≤ r.safe ∧ r.safe ≤ (r.data.length : Int)
  | [], _, _, _, h => by cases h
  | x :: rs, p, hm, r, h => by
    rcases List.mem_cons.1 h with rfl | h
    · exact ⟨hm.1.1, hm.1.2.1, hm.1.2.2.1, hm.1.2.2.2.1⟩
    · exact may_each rs _ hm.2 r h
theorem may_sound {rs : List Raw} (h64 : rs.length ≤ 64) (hm : mayFrom none rs) : SoundF (rs.map toFl) := by
  refine ⟨may_rises rs none hm, by rw [List.length_map]; exact h64, fun g hg => ?_⟩
  obtain ⟨r, hr, rfl⟩ := List.mem_map.1 hg
  obtain ⟨h1, h2, h3, h4⟩ := may_each rs none hm r hr
  exact ⟨h1, h2, by show r.safe.toNat ≤ r.data.length; omega⟩
theorem Rv.fv [Keep] {w : World} {lv : Value} {rs : List Raw} (h : Rv w lv rs) (hm : mayFrom none rs) (hk : ∀ b, b < w.heap.size → kOk b) (hf : kBase ≤ w.heap.size) : Fv w lv (rs.map toFl) := by
  obtain ⟨ao, cap, e, h2⟩ := h
  refine ⟨hf, ao, cap, by rw [List.length_map]; exact e, fun i f hf => ?_⟩
  rw [List.getElem?_map] at hf
  obtain ⟨r, hr, rfl⟩ := Option.map_eq_some_iff.1 hf
  obtain ⟨b, off, sv, r1, r2, r3, r4, r5⟩ := h2 i r hr
  obtain ⟨_, _, h3, _⟩ := may_each rs none hm r (List.mem_of_getElem? hr)
  exact ⟨b, off, sv, r1, r2, r3, by rw [r4]; show _ = some (Value.int .i64 ((r.safe.toNat : Nat) : Int)); rw [Int.toNat_of_nonneg h3], r5, hk b (World.block_lt_of_cell? w _ r2)⟩

@[go_sem] theorem dec_lt_no {a b : Int} (h : b ≤ a) : decide (a < b) = false := decide_eq_false (by omega)
@[go_sem] theorem dec_lt_yes {a b : Int} (h : a < b) : decide (a < b) = true := decide_eq_true h

/-- The name ahead of a place. -/
def prevOf (rs : List Raw) (i : Nat) : Option ByteArray := if i = 0 then none else rs[i - 1]?.map Raw.name

/-- What May tells. -/
def MayT (rs : List Raw) (e : Ending) : Prop := ∃ B, e = .returned (.bool B) ∧ (B = true ↔ rs.length ≤ 64 ∧ mayFrom none rs)

set_option maxHeartbeats 2000000 in
theorem may_of [Keep] (rs : List Raw) (lv : Value) (w : World) (hF : Rv w lv rs) :
    Calls Try.prog 8 #[lv] w fun e w' => MayT rs e ∧ Below w.heap.size w w' := by
  obtain ⟨ao, cap, rfl, h2⟩ := id hF
  by_cases h64 : 64 < rs.length
  · have h64i : (64 : Int) < (rs.length : Int) := by omega
    clear h2 hF
    go_enter Try.func8, Try.ntmps8
    go_wp2
    go_ret
    exact ⟨⟨false, rfl, ⟨fun h => (by cases h), fun h => (by omega)⟩⟩, Below.refl _ _⟩
  have h64i : ¬ (64 : Int) < (rs.length : Int) := by omega
  go_enter Try.func8, Try.ntmps8
  go_wp2
  go_loopg [3] rs.length (fun g s3 wr => ∃ i : Nat, i + g = rs.length ∧ s3 = .int .i64 (i : Int) ∧ Hid (mayFrom none rs ↔ mayFrom (prevOf rs i) (rs.drop i)) ∧ Below w.heap.size w wr)
  case atStart => exact ⟨0, by simp, rfl, Iff.rfl, Below.refl _ _⟩
  case round =>
    obtain ⟨i, hi, rfl, H, hbel⟩ := hrel
    by_cases hlt : i < rs.length
    · have hlti : (i : Int) < (rs.length : Int) := by omega
      have hx : rs[i]? = some rs[i] := List.getElem?_eq_getElem hlt
      obtain ⟨b, off, sg, rfl, c0, c1, c2, hBg⟩ := h2 i rs[i] hx
      obtain ⟨asg, csg, rfl, -⟩ := id hBg
      have c0' := (hbel.cell (p := ⟨b, off + i * 3, none⟩) (World.block_lt_of_cell? w _ c0)).trans c0
      have c1' := (hbel.cell (p := ⟨b, off + i * 3 + 1, none⟩) (World.block_lt_of_cell? w _ c1)).trans c1
      have c2' := (hbel.cell (p := ⟨b, off + i * 3 + 2, none⟩) (World.block_lt_of_cell? w _ c2)).trans c2
      rw [List.drop_eq_getElem_cons hlt] at H
      have hpv : prevOf rs (i + 1) = some rs[i].name := by unfold prevOf; simp [hx]
      have hH' : mayOne (prevOf rs i) rs[i] → Hid (mayFrom none rs ↔ mayFrom (prevOf rs (i + 1)) (rs.drop (i + 1))) := fun h1 => by
        show _ ↔ _
        rw [H.out, hpv]
        exact ⟨fun h => h.2, fun h => ⟨h1, h⟩⟩
      have hprev : i ≠ 0 → ∃ pn, prevOf rs i = some pn ∧ wr.cell? ⟨b, off + (i - 1) * 3, none⟩ = some (.string pn) := fun h0 => by
        have hx1 : rs[i - 1]? = some rs[i - 1] := List.getElem?_eq_getElem (by omega)
        obtain ⟨b', off', sg', e1, z0, _⟩ := h2 (i - 1) rs[i - 1] hx1
        cases e1
        exact ⟨rs[i - 1].name, by unfold prevOf; rw [if_neg h0, hx1]; rfl, (hbel.cell (p := ⟨b, off + (i - 1) * 3, none⟩) (World.block_lt_of_cell? w _ z0)).trans z0⟩
      have hp0 : i = 0 → prevOf rs i = none := fun h => by unfold prevOf; rw [if_pos h]
      generalize hpo : prevOf rs i = po at *
      generalize rs[i] = g at *
      have hnm := fun W => name_of g.name W
      have hbX := (Below.refl wr.heap.size wr).alloc (Nat.le_refl _) (.cells #[.string g.name, .slice asg g.data.length csg, .int .i64 g.safe] 46)
      have hbwX := hbel.trans (hbX.mono hbel.size)
      have hbx := heap_alloc_new wr (.cells #[.string g.name, .slice asg g.data.length csg, .int .i64 g.safe] 46)
      have d0 : (wr.alloc (.cells #[.string g.name, .slice asg g.data.length csg, .int .i64 g.safe] 46)).cell? ⟨wr.heap.size, 0, none⟩ = some (.string g.name) := by rw [cells_of_block hbx]; rfl
      have d1 : (wr.alloc (.cells #[.string g.name, .slice asg g.data.length csg, .int .i64 g.safe] 46)).cell? ⟨wr.heap.size, 1, none⟩ = some (.slice asg g.data.length csg) := by rw [cells_of_block hbx]; rfl
      have d2 : (wr.alloc (.cells #[.string g.name, .slice asg g.data.length csg, .int .i64 g.safe] 46)).cell? ⟨wr.heap.size, 2, none⟩ = some (.int .i64 g.safe) := by rw [cells_of_block hbx]; rfl
      have d3 : ∀ pn, wr.cell? ⟨b, off + (i - 1) * 3, none⟩ = some (.string pn) → (wr.alloc (.cells #[.string g.name, .slice asg g.data.length csg, .int .i64 g.safe] 46)).cell? ⟨b, off + (i - 1) * 3, none⟩ = some (.string pn) := fun pn hz => (hbX.cell (p := ⟨b, off + (i - 1) * 3, none⟩) (World.block_lt_of_cell? wr _ hz)).trans hz
      obtain ⟨w0, hw0⟩ : ∃ x, x = wr := ⟨_, rfl⟩
      subst hw0
      clear hx c0 c1 c2 h2 hF hpo hpv hbx hBg
      cases hm1 : mayName g.name with
      | false =>
        have hbad : ¬ mayOne po g := fun h => by rw [h.1] at hm1; cases hm1
        rw [hm1] at hnm
        clear hH' hprev hp0 d3
        go_wp2
        generalize w0.alloc (.cells #[.string g.name, .slice asg g.data.length csg, .int .i64 g.safe] 46) = wX at *
        go_big_quiet ((go_at_call 26; exact Calls.quiet_of_same (hnm _)))
        go_wp2
        go_ret
        exact ⟨⟨false, rfl, ⟨fun h => (by cases h), fun h => absurd (H.out.1 h.2).1 hbad⟩⟩, below_drewN hbwX _⟩
      | true =>
        rw [hm1] at hnm
        by_cases hm2 : 65536 < g.data.length
        · have hbad : ¬ mayOne po g := fun h => by have := h.2.1; omega
          have m2 : (65536 : Int) < (g.data.length : Int) := by omega
          clear hH' hprev hp0 d3
          go_wp2
          generalize w0.alloc (.cells #[.string g.name, .slice asg g.data.length csg, .int .i64 g.safe] 46) = wX at *
          go_big_quiet ((go_at_call 26; exact Calls.quiet_of_same (hnm _)))
          go_wp2
          go_ret
          exact ⟨⟨false, rfl, ⟨fun h => (by cases h), fun h => absurd (H.out.1 h.2).1 hbad⟩⟩, below_drewN hbwX _⟩
        have m2 : ¬ (65536 : Int) < (g.data.length : Int) := by omega
        by_cases hm3 : g.safe < 0
        · have hbad : ¬ mayOne po g := fun h => by have := h.2.2.1; omega
          clear hH' hprev hp0 d3
          go_wp2
          generalize w0.alloc (.cells #[.string g.name, .slice asg g.data.length csg, .int .i64 g.safe] 46) = wX at *
          go_big_quiet ((go_at_call 26; exact Calls.quiet_of_same (hnm _)))
          go_wp2
          go_ret
          exact ⟨⟨false, rfl, ⟨fun h => (by cases h), fun h => absurd (H.out.1 h.2).1 hbad⟩⟩, below_drewN hbwX _⟩
        by_cases hm4 : (g.data.length : Int) < g.safe
        · have hbad : ¬ mayOne po g := fun h => by have := h.2.2.2.1; omega
          clear hH' hprev hp0 d3
          go_wp2
          generalize w0.alloc (.cells #[.string g.name, .slice asg g.data.length csg, .int .i64 g.safe] 46) = wX at *
          go_big_quiet ((go_at_call 26; exact Calls.quiet_of_same (hnm _)))
          go_wp2
          go_ret
          exact ⟨⟨false, rfl, ⟨fun h => (by cases h), fun h => absurd (H.out.1 h.2).1 hbad⟩⟩, below_drewN hbwX _⟩
        by_cases hi0 : i = 0
        · have hp := hp0 hi0
          have H' := hH' ⟨hm1, by omega, by omega, by omega, fun q hq => by rw [hp] at hq; cases hq⟩
          have m5 : ¬ (0 : Int) < (i : Int) := by omega
          clear hH' hprev hp0 d3 H
          subst hi0
          simp only [Nat.zero_mul, Nat.add_zero] at c0' c1' c2'
          go_wp2
          generalize w0.alloc (.cells #[.string g.name, .slice asg g.data.length csg, .int .i64 g.safe] 46) = wX at *
          go_big_quiet ((go_at_call 26; exact Calls.quiet_of_same (hnm _)))
          go_wp2
          go_roundg (gk - 1)
          case measure => omega
          case rel => exact ⟨0 + 1, by omega, by go_num, H', below_drewN hbwX _⟩
        · obtain ⟨pn, hp, z0⟩ := hprev hi0
          have d3 := d3 pn z0
          obtain ⟨p, rfl⟩ : ∃ p, i = p + 1 := ⟨i - 1, by omega⟩
          rw [Nat.add_sub_cancel] at d3
          have m8 : (p : Int) < (rs.length : Int) := by omega
          have m9 : p < rs.length := by omega
          by_cases hlt' : strOrd.lt pn g.name
          · have H' := hH' ⟨hm1, by omega, by omega, by omega, fun q hq => by rw [hp] at hq; cases hq; exact hlt'⟩
            have n1 : Op.bytesLess g.name.toList pn.toList = false := not_less_of (fun h => strOrd.irr _ (strOrd.tr _ _ _ h hlt'))
            have n2 := toList_ne (fun e : g.name = pn => strOrd.irr pn (by rw [e] at hlt'; exact hlt'))
            clear hH' hp0 z0 H hprev
            go_wp2
            generalize w0.alloc (.cells #[.string g.name, .slice asg g.data.length csg, .int .i64 g.safe] 46) = wX at *
            go_big_quiet ((go_at_call 26; exact Calls.quiet_of_same (hnm _)))
            go_wp2
            go_roundg (gk - 1)
            case measure => omega
            case rel => exact ⟨p + 1 + 1, by omega, by go_num, H', below_drewN hbwX _⟩
          · have hbad : ¬ mayOne po g := fun h => hlt' (h.2.2.2.2 pn hp)
            have n1 : (Op.bytesLess g.name.toList pn.toList || g.name.toList == pn.toList) = true := by
              rcases strOrd.tot g.name pn with h | h | h
              · rw [less_of h]; rfl
              · rw [h]; simp
              · exact absurd h hlt'
            clear hH' hp0 z0 hprev
            go_wp2
            generalize w0.alloc (.cells #[.string g.name, .slice asg g.data.length csg, .int .i64 g.safe] 46) = wX at *
            go_big_quiet ((go_at_call 26; exact Calls.quiet_of_same (hnm _)))
            go_wp2
            go_ret
            exact ⟨⟨false, rfl, ⟨fun h => (by cases h), fun h => absurd (H.out.1 h.2).1 hbad⟩⟩, below_drewN hbwX _⟩
    · have hlti : ¬ (i : Int) < (rs.length : Int) := by omega
      have hm : Hid (mayFrom none rs) := by
        show mayFrom none rs
        rw [H.out, List.drop_eq_nil_of_le (by omega)]
        trivial
      clear h2 hF H
      go_wp2
      go_ret
      exact ⟨⟨true, rfl, ⟨fun _ => ⟨by omega, hm.out⟩, fun _ => rfl⟩⟩, hbel⟩
end Go.Proofs.Ytcnljocgpoaepaa
