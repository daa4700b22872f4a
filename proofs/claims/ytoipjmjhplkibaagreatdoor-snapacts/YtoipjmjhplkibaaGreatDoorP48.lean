import Derived.Test.YtoipjmjhplkibaaGreatDoorP41
import Derived.Test.YtoipjmjhplkibaaGreatDoorP22
/- The program's Load. -/
namespace Go.Proofs.YtoipjmjhplkibaaGreatDoor
open Go.RowKit DiskMath
set_option maxRecDepth 100000
set_option linter.unusedSimpArgs false
set_option linter.unusedVariables false

/-- May a file be on a disk? -/
def rawMay (r : Raw) : Prop := mayName r.name = true ∧ r.data.length ≤ 65536 ∧ 0 ≤ r.safe ∧ r.safe ≤ (r.data.length : Int)

/-- What fileMayBe tells. -/
def FMayT (r : Raw) (e : Ending) : Prop := ∃ B, e = .returned (.bool B) ∧ (B = true ↔ rawMay r)

set_option maxHeartbeats 1000000 in
theorem fileMay_of (r : Raw) (ao : Option Addr) (cap : Nat) (w : World) : Calls Tryz.prog 68 #[.agg #[.string r.name, .slice ao r.data.length cap, .int .i64 r.safe]] w fun e w' => FMayT r e ∧ Below w.heap.size w w' := by
  have hbx := (Below.refl w.heap.size w).alloc (Nat.le_refl _) (.cells #[.string r.name, .slice ao r.data.length cap, .int .i64 r.safe] 67)
  have hnm := nameMay_of r.name (w.alloc (.cells #[.string r.name, .slice ao r.data.length cap, .int .i64 r.safe] 67))
  cases hm : mayName r.name with
  | false =>
    have hbad : Hid (¬ rawMay r) := fun h => by rw [h.1] at hm; cases hm
    rw [hm] at hnm
    go_enter Tryz.func68, Tryz.ntmps68
    go_wp2_with fail
    refine hnm.mono ?_
    rintro e w1 ⟨rfl, hw1⟩
    rw [hw1]
    clear hw1 w1 hnm
    go_wp2
    go_ret
    exact ⟨⟨false, rfl, ⟨fun h => (by cases h), fun h => absurd h hbad.out⟩⟩, hbx⟩
  | true =>
    rw [hm] at hnm
    by_cases h2 : r.data.length ≤ 65536
    · have i2 : (r.data.length : Int) ≤ 65536 := by omega
      by_cases h3 : 0 ≤ r.safe
      · by_cases h4 : r.safe ≤ (r.data.length : Int)
        · have hgood : Hid (rawMay r) := ⟨hm, h2, h3, h4⟩
          have hd : decide (r.safe ≤ (r.data.length : Int)) = true := decide_eq_true h4
          go_enter Tryz.func68, Tryz.ntmps68
          go_wp2_with fail
          refine hnm.mono ?_
          rintro e w1 ⟨rfl, hw1⟩
          rw [hw1]
          clear hw1 w1 hnm
          go_wp2
          go_ret
          exact ⟨⟨true, rfl, ⟨fun _ => hgood.out, fun _ => rfl⟩⟩, hbx⟩
        · have hbad : Hid (¬ rawMay r) := fun h => h4 h.2.2.2
          have hd : decide (r.safe ≤ (r.data.length : Int)) = false := decide_eq_false h4
          go_enter Tryz.func68, Tryz.ntmps68
          go_wp2_with fail
          refine hnm.mono ?_
          rintro e w1 ⟨rfl, hw1⟩
          rw [hw1]
          clear hw1 w1 hnm
          go_wp2
          go_ret
          exact ⟨⟨false, rfl, ⟨fun h => (by cases h), fun h => absurd h hbad.out⟩⟩, hbx⟩
      · have hbad : Hid (¬ rawMay r) := fun h => h3 h.2.2.1
        go_enter Tryz.func68, Tryz.ntmps68
        go_wp2_with fail
        refine hnm.mono ?_
        rintro e w1 ⟨rfl, hw1⟩
        rw [hw1]
        clear hw1 w1 hnm
        go_wp2
        go_ret
        exact ⟨⟨false, rfl, ⟨fun h => (by cases h), fun h => absurd h hbad.out⟩⟩, hbx⟩
    · have i2 : ¬ (r.data.length : Int) ≤ 65536 := by omega
      have hbad : Hid (¬ rawMay r) := fun h => h2 h.2.1
      go_enter Tryz.func68, Tryz.ntmps68
      go_wp2_with fail
      refine hnm.mono ?_
      rintro e w1 ⟨rfl, hw1⟩
      rw [hw1]
      clear hw1 w1 hnm
      go_wp2
      go_ret
      exact ⟨⟨false, rfl, ⟨fun h => (by cases h), fun h => absurd h hbad.out⟩⟩, hbx⟩

/-- A file above all others stands last. -/
theorem put_last : ∀ {fs : Files} {f : File}, (∀ g ∈ fs, strOrd.lt g.name f.name) → putF fs f = fs ++ [f]
  | [], f, _ => by simp [putF, put, putFrom]
  | g :: fs, f, h => by
    haveI := strOrd.dec g.name f.name
    have hg := h g List.mem_cons_self
    have hne : g.name ≠ f.name := fun e => strOrd.irr f.name (by rw [e] at hg; exact hg)
    have ih := put_last (fs := fs) (f := f) fun x hx => h x (List.mem_cons_of_mem _ hx)
    unfold putF put at ih ⊢
    rw [putFrom]
    simp only [hg, not_true_eq_false, and_false, if_false, List.nil_append, decide_false, Bool.or_false]
    rw [if_neg hne, ih]
    rfl

/-- The name of the last file, or none. -/
def lastOf (rs : List Raw) : ByteArray := match rs.getLast? with | none => noName | some r => r.name

theorem mayFrom_append : ∀ (rs : List Raw) (p : Option ByteArray) (r : Raw), mayFrom p (rs ++ [r]) ↔ mayFrom p rs ∧ mayOne (match rs.getLast? with | none => p | some x => some x.name) r
  | [], p, r => by simp [mayFrom]
  | x :: rs, p, r => by
    have ih := mayFrom_append rs (some x.name) r
    simp only [List.cons_append, mayFrom]
    rw [ih, and_assoc]
    have e : (match (x :: rs).getLast? with | none => p | some y => some y.name) = (match rs.getLast? with | none => some x.name | some y => some y.name) := by
      cases rs with
      | nil => rfl
      | cons y ys => rw [List.getLast?_cons_cons]; cases h : (y :: ys).getLast? with
        | none => simp at h
        | some z => rfl
    rw [e]

theorem mayFrom_take {rs : List Raw} {p : Option ByteArray} (h : mayFrom p rs) : ∀ i, mayFrom p (rs.take i) := by
  intro i
  induction rs generalizing p i with
  | nil => simpa using h
  | cons x rs ih =>
    cases i with
    | zero => trivial
    | succ i => exact ⟨h.1, ih h.2 i⟩

/-- Whether the next file may stand behind those before. -/
theorem next_may {rs : List Raw} {i : Nat} {r : Raw} (hr : rs[i]? = some r) (hm : mayFrom none (rs.take i)) : mayFrom none (rs.take (i + 1)) ↔ rawMay r ∧ strOrd.lt (lastOf (rs.take i)) r.name := by
  rw [take_snoc hr, mayFrom_append]
  have hnil : ∀ n : ByteArray, mayName n = true → strOrd.lt noName n := by
    intro n hn
    have h1 := (may_size hn).1
    show noName.toList < n.toList
    rw [ByteArray.toList_eq, ByteArray.toList_eq]
    cases hl : n.data.toList with
    | nil =>
      have h2 : n.size = n.data.toList.length := rfl
      rw [hl] at h2
      exact absurd h1 (by rw [h2]; decide)
    | cons a l => exact List.nil_lt_cons a l
  unfold lastOf mayOne rawMay
  cases hl : (rs.take i).getLast? with
  | none =>
    constructor
    · rintro ⟨_, h1, h2, h3, h4, _⟩
      exact ⟨⟨h1, h2, h3, h4⟩, hnil _ h1⟩
    · rintro ⟨⟨h1, h2, h3, h4⟩, _⟩
      exact ⟨hm, h1, h2, h3, h4, fun q hq => by cases hq⟩
  | some x =>
    constructor
    · rintro ⟨_, h1, h2, h3, h4, h5⟩
      exact ⟨⟨h1, h2, h3, h4⟩, h5 x.name rfl⟩
    · rintro ⟨⟨h1, h2, h3, h4⟩, h5⟩
      exact ⟨hm, h1, h2, h3, h4, fun q hq => by cases hq; exact h5⟩
/-- All before are below the next. -/
theorem all_below {rs : List Raw} (hm : mayFrom none rs) {n : ByteArray} (h : strOrd.lt (lastOf rs) n) : ∀ g ∈ rs.map toFl, strOrd.lt g.name n := by
  intro g hg
  obtain ⟨r, hr, rfl⟩ := List.mem_map.1 hg
  show strOrd.lt r.name n
  obtain ⟨i, hi⟩ := List.mem_iff_getElem?.1 hr
  have hil := (List.getElem?_eq_some_iff.1 hi).1
  have hlast : ∃ x, rs.getLast? = some x ∧ (r = x ∨ strOrd.lt r.name x.name) := by
    cases hl : rs.getLast? with
    | none =>
      rw [List.getLast?_eq_none_iff] at hl
      subst hl
      cases hr
    | some x =>
      refine ⟨x, rfl, ?_⟩
      obtain ⟨ys, rfl⟩ := List.getLast?_eq_some_iff.1 hl
      rcases List.mem_append.1 hr with h1 | h1
      · right
        have hR := may_rises _ none hm
        rw [List.map_append] at hR
        have : ∀ (a b : Files), Rises strOrd (a ++ b) → ∀ x ∈ a, ∀ y ∈ b, strOrd.lt x.name y.name := by
          intro a
          induction a with
          | nil => intro b _ x hx; cases hx
          | cons z a ih =>
            intro b hb x hx y hy
            rcases List.mem_cons.1 hx with rfl | hx
            · exact hb.1 y (List.mem_append_right _ hy)
            · exact ih b hb.2 x hx y hy
        exact this _ _ hR (toFl r) (List.mem_map_of_mem h1) (toFl x) (by simp)
      · left
        simpa using h1
  obtain ⟨x, hx, h1⟩ := hlast
  unfold lastOf at h
  rw [hx] at h
  rcases h1 with rfl | h1
  · exact h
  · exact strOrd.tr _ _ _ h1 h

/-- What Load tells. -/
def LoadT (w : World) (rs : List Raw) (e : Ending) (w' : World) : Prop :=
  Below w.heap.size w w' ∧ ((rs.length ≤ 64 ∧ mayFrom none rs ∧ ∃ S d, e = .returned (.tuple #[d, .int .i64 0]) ∧ Dk S w' d (rs.map toFl) ∧ ∀ b, S b → w.heap.size ≤ b) ∨ (¬ (rs.length ≤ 64 ∧ mayFrom none rs) ∧ e = .returned (.tuple #[.pointer none, .int .i64 1])))
/-- What lies there behind i files. -/
def LoadI (w : World) (q : Nat) (rs : List Raw) (i : Nat) (wr : World) : Prop :=
  mayFrom none (rs.take i) ∧ Below w.heap.size w wr ∧ ∃ S, Dk S wr (.pointer (some ⟨q, 0, none⟩)) ((rs.take i).map toFl) ∧ ∀ b, S b → w.heap.size ≤ b

theorem last_next {rs : List Raw} {i : Nat} {r : Raw} (hr : rs[i]? = some r) : lastOf (rs.take (i + 1)) = r.name := by
  rw [take_snoc hr]
  unfold lastOf
  rw [List.getLast?_append]
  rfl

/-- One file more. -/
theorem load_next {w wr w4 w5 : World} {q : Nat} {rs : List Raw} {i : Nat} {r : Raw} {S : Nat → Prop} {ρ : Mark} {M : ByteArray → Option Value} {m : Nat} {v4 : Value} {e : Ending} (hD : DiskAt ρ M wr q m ((rs.take i).map toFl)) (hS : ∀ b, S b ↔ (ρ b).1 ≠ 0) (hSn : ∀ b, S b → w.heap.size ≤ b) (hbw : Below w.heap.size w wr)
    (hr : rs[i]? = some r) (h64 : rs.length ≤ 64) (hm1 : mayFrom none (rs.take i)) (hm2 : mayFrom none (rs.take (i + 1))) (hby : ∀ c ∈ r.data, c < 256) (hb4 : Below wr.heap.size wr w4) (hO4 : Own wr.heap.size w4 v4 r.data)
    (hT : KeepT (w4.alloc (.cells #[v4, .int .i64 r.safe] 120)) m ((rs.take i).map toFl).length M r.name (.pointer (some ⟨w4.heap.size, 0, none⟩)) e w5) : e = .returned (.tuple #[]) ∧ LoadI w q rs (i + 1) w5 ∧ ∀ b, b < w4.heap.size → b ≠ m → w5.heap[b]? = w4.heap[b]? := by
  obtain ⟨he, hM5, hg5⟩ := hT
  have hi := (List.getElem?_eq_some_iff.1 hr).1
  obtain ⟨⟨h1, h2, h3, h4⟩, hlt⟩ := (next_may hr hm1).1 hm2
  have hab := all_below hm1 hlt
  have hgn : get ((rs.take i).map toFl) r.name = none := get_none.2 fun g hg e => strOrd.irr r.name (by have := hab g hg; rw [e] at this; exact this)
  have hMn := hD.no _ hgn
  rw [if_pos hMn] at hM5
  have hs4 : (w4.alloc (.cells #[v4, .int .i64 r.safe] 120)).heap.size = w4.heap.size + 1 := by simp
  have hml := hD.lt m (by rw [hD.markm]; decide)
  have hblk : ∀ b, b < w4.heap.size → b ≠ m → w5.heap[b]? = w4.heap[b]? := fun b hb hne => (hg5.block b (by omega) (fun e => hne (Option.some.inj e))).trans (heap_alloc_old _ _ hb)
  have hp5 : w5.heap[w4.heap.size]? = some (.cells #[v4, .int .i64 ((r.safe.toNat : Nat) : Int)] 120 (0, 0)) := by
    refine (hg5.block _ (by omega) (fun e => ?_)).trans ?_
    · have := Option.some.inj e
      have := hb4.size
      omega
    · rw [heap_alloc_new, Int.toNat_of_nonneg h3]
  have hO5 : Own 0 w5 v4 r.data := (hO4.mono (Nat.zero_le _)).same fun k hk => hblk k (hO4.lt hk).2 (fun e => by have := (hO4.lt hk).1; omega)
  have hlen : ((rs.take i).map toFl).length < 64 := by rw [List.length_map, List.length_take]; omega
  have hmade := made hD hS hgn hp5 hO5 (fun k hk => by have := hO4.lt hk; omega) hb4.size hM5 (hg5.os.trans hb4.os) (hg5.tape.trans hb4.tape) (hg5.output.trans hb4.output) (by have := hg5.size; have := hb4.size; omega)
    (fun b hb hne => (hblk b (Nat.lt_of_lt_of_le hb hb4.size) hne).trans (hb4.block b hb)) h1 hlen h2 (by omega) hby
  obtain ⟨S', hD', hs', hk'⟩ := hmade
  obtain ⟨hSn', hb'⟩ := fresh_step hSn hbw.size hs' hk'
  have hput : putF ((rs.take i).map toFl) ⟨r.name, r.data, r.safe.toNat⟩ = (rs.take (i + 1)).map toFl := by
    rw [put_last hab, take_snoc hr, List.map_append]
    rfl
  rw [hput] at hD'
  exact ⟨he, ⟨hm2, hbw.trans hb', S', hD', hSn'⟩, hblk⟩

set_option maxHeartbeats 4000000 in
theorem dload_of (rs : List Raw) (lv : Value) (w : World) (hR : @Rv keepAll w lv rs) (hby : ∀ r ∈ rs, ∀ c ∈ r.data, c < 256) : Calls Tryz.prog 25 #[lv] w (LoadT w rs) := by
  letI := keepAll
  obtain ⟨ao, cap, rfl, h2⟩ := id hR
  have h0 := dnew_of w
  by_cases h64 : 64 < rs.length
  · have h64i : (64 : Int) < (rs.length : Int) := by omega
    have E : Hid (LoadT w rs (.returned (.tuple #[.pointer none, .int .i64 1])) w) := ⟨Below.refl _ _, .inr ⟨fun h => by omega, rfl⟩⟩
    generalize LoadT w rs = T at *
    clear h2 hR h0
    go_enter Tryz.func25, Tryz.ntmps25
    go_wp2 <;> first | exact E.out | (go_ret2; exact E.out)
  have h64i : ¬ (64 : Int) < (rs.length : Int) := by omega
  have Eb : ∀ w' i, i < rs.length → Below w.heap.size w w' → ¬ mayFrom none (rs.take (i + 1)) → Hid (LoadT w rs (.returned (.tuple #[.pointer none, .int .i64 1])) w') := fun w' i _ hb hn => ⟨hb, .inr ⟨fun h => hn (mayFrom_take h.2 _), rfl⟩⟩
  have Eg : ∀ w' q, LoadI w q rs rs.length w' → Hid (LoadT w rs (.returned (.tuple #[.pointer (some ⟨q, 0, none⟩), .int .i64 0])) w') := fun w' q h => by
    obtain ⟨h1, hb, S, hD, hSn⟩ := h
    rw [List.take_length] at h1 hD
    exact ⟨hb, .inl ⟨by omega, h1, S, _, rfl, hD, hSn⟩⟩
  generalize LoadT w rs = T at *
  go_enter Tryz.func25, Tryz.ntmps25
  go_wp2_with fail
  refine h0.mono ?_
  rintro e w1 ⟨S1, d, rfl, hD1, hS1, hb1⟩
  obtain ⟨q, rfl⟩ := hD1.shape
  have hI0 : LoadI w q rs 0 w1 := ⟨trivial, hb1, S1, hD1, hS1⟩
  clear h0 hD1
  go_wp2
  go_loopg [5, 14] rs.length (fun g s5 s14 wr => ∃ i : Nat, i + g = rs.length ∧ s14 = .int .i64 (i : Int) ∧ s5 = .string (lastOf (rs.take i)) ∧ LoadI w q rs i wr)
  case atStart => exact ⟨0, by simp, rfl, rfl, hI0⟩
  case round =>
    obtain ⟨i, hi, rfl, rfl, hI⟩ := hrel
    by_cases hlt : i < rs.length
    · have hlti : (i : Int) < (rs.length : Int) := by omega
      have hx : rs[i]? = some rs[i] := List.getElem?_eq_getElem hlt
      have hln := last_next hx
      have hnx := next_may hx hI.1
      have hbyr := hby rs[i] (List.getElem_mem hlt)
      obtain ⟨b, off, sg, rfl, c0, c1, c2, hBg⟩ := h2 i rs[i] hx
      obtain ⟨asg, csg, rfl, -⟩ := id hBg
      obtain ⟨hm1, hbw, S, hDk, hSn⟩ := id hI
      have c0' := (hbw.cell (p := ⟨b, off + i * 3, none⟩) (World.block_lt_of_cell? w _ c0)).trans c0
      have c1' := (hbw.cell (p := ⟨b, off + i * 3 + 1, none⟩) (World.block_lt_of_cell? w _ c1)).trans c1
      have c2' := (hbw.cell (p := ⟨b, off + i * 3 + 2, none⟩) (World.block_lt_of_cell? w _ c2)).trans c2
      generalize hri : rs[i] = r at *
      have hbX := (Below.refl wr.heap.size wr).alloc (Nat.le_refl _) (.cells #[.string r.name, .slice asg r.data.length csg, .int .i64 r.safe] 67)
      have hbx := heap_alloc_new wr (.cells #[.string r.name, .slice asg r.data.length csg, .int .i64 r.safe] 67)
      have hfm := fileMay_of r asg csg (wr.alloc (.cells #[.string r.name, .slice asg r.data.length csg, .int .i64 r.safe] 67))
      have hszX : (wr.alloc (.cells #[.string r.name, .slice asg r.data.length csg, .int .i64 r.safe] 67)).heap.size = wr.heap.size + 1 := by simp
      have hcs : ∀ w', Below (wr.heap.size + 1) (wr.alloc (.cells #[.string r.name, .slice asg r.data.length csg, .int .i64 r.safe] 67)) w' → w'.cell? ⟨wr.heap.size, 0, none⟩ = some (.string r.name) ∧ w'.cell? ⟨wr.heap.size, 1, none⟩ = some (.slice asg r.data.length csg) ∧ w'.cell? ⟨wr.heap.size, 2, none⟩ = some (.int .i64 r.safe) := fun w' hb => by
        have hbk := (hb.block wr.heap.size (Nat.lt_succ_self _)).trans hbx
        exact ⟨by rw [cells_of_block hbk]; rfl, by rw [cells_of_block hbk]; rfl, by rw [cells_of_block hbk]; rfl⟩
      rw [hszX] at hfm
      obtain ⟨w0, hw0⟩ : ∃ y, y = wr := ⟨_, rfl⟩
      subst hw0
      clear hR h2 c0 c1 c2 hI hI0
      go_wp2_with fail
      refine hfm.mono ?_
      rintro e w2 ⟨⟨B, rfl, hB⟩, hb2⟩
      have hbr2 : Below w0.heap.size w0 w2 := hbX.trans (hb2.mono (Nat.le_succ _))
      have hbw2 := hbw.trans (hbr2.mono hbw.size)
      obtain ⟨x0, x1, x2⟩ := hcs w2 hb2
      cases B with
      | false =>
        have hE := Eb w2 i hlt hbw2 (fun h => by have := hB.2 (hnx.1 h).1; cases this)
        clear Eb Eg hfm hcs hDk hnx hB
        go_wp2 <;> first | exact hE.out | (go_ret2; exact hE.out)
      | true =>
        have hrm := hB.1 rfl
        by_cases hlast : strOrd.lt (lastOf (rs.take i)) r.name
        · have hm2 := hnx.2 ⟨hrm, hlast⟩
          have n1 : Op.bytesLess r.name.toList (lastOf (rs.take i)).toList = false := not_less_of (fun h => strOrd.irr _ (strOrd.tr _ _ _ h hlast))
          have n2 := toList_ne (fun e : r.name = lastOf (rs.take i) => strOrd.irr (lastOf (rs.take i)) (by rw [e] at hlast; exact hlast))
          obtain ⟨ρ, M, q', m, hq', hS, hD⟩ := hDk
          cases hq'
          have hdr : Below w2.heap.size w2 w2.drew := (Below.refl _ _).drew
          have hcl := clone_of w.heap.size r.data (.slice asg r.data.length csg) w2.drew (hBg.below (hbw2.trans (hdr.mono hbw2.size))) (Nat.le_trans hbw2.size (Nat.le_refl _)) (by have := hrm.2.1; omega)
          have hns := (may_size hrm.1).2
          have hl64 : ((rs.take i).map toFl).length ≤ 64 := hD.sound.2.1
          have hkp : ∀ v4 w4, Own w2.drew.heap.size w4 v4 r.data → Below w2.drew.heap.size w2.drew w4 → Calls Tryz.prog 69 #[.pointer (some ⟨q, 0, none⟩), .string r.name, .pointer (some ⟨w4.heap.size, 0, none⟩)] (w4.alloc (.cells #[v4, .int .i64 r.safe] 120)) fun e w5 => e = .returned (.tuple #[]) ∧ LoadI w q rs (i + 1) w5 ∧ (w5.cell? ⟨w0.heap.size, 0, none⟩ = some (.string r.name) ∧ w5.cell? ⟨w0.heap.size, 1, none⟩ = some (.slice asg r.data.length csg) ∧ w5.cell? ⟨w0.heap.size, 2, none⟩ = some (.int .i64 r.safe)) := by
            intro v4 w4 hO4 hb4
            have hb04 : Below w0.heap.size w0 w4 := hbr2.trans ((hdr.trans hb4).mono hbr2.size)
            have hbA := hb04.alloc hb04.size (.cells #[v4, .int .i64 r.safe] 120)
            have hcq := (hbA.cell (p := ⟨q, 0, none⟩) (World.block_lt_of_cell? w0 _ hD.cell)).trans hD.cell
            refine (keep_of r.name (.pointer (some ⟨w4.heap.size, 0, none⟩)) hcq (hD.map.below hbA) (by unfold maxLen; omega) (by omega)).mono ?_
            intro e w5 hT
            have hO4' : Own w0.heap.size w4 v4 r.data := hO4.mono hbr2.size
            obtain ⟨he, hI5, hblk5⟩ := load_next hD hS hSn hbw hx (by omega) hm1 hm2 hbyr hb04 hO4' hT
            have hb24 : Below (w0.heap.size + 1) (w0.alloc (.cells #[.string r.name, .slice asg r.data.length csg, .int .i64 r.safe] 67)) w4 := hb2.trans ((hdr.trans hb4).mono (by have := hb2.size; rw [hszX] at this; exact this))
            have hbk4 := (hb24.block w0.heap.size (Nat.lt_succ_self _)).trans hbx
            have hml := hD.lt m (by rw [hD.markm]; decide)
            have hbk5 := (hblk5 w0.heap.size (Array.getElem?_eq_some_iff.1 hbk4).1 (by omega)).trans hbk4
            exact ⟨he, hI5, by rw [cells_of_block hbk5]; rfl, by rw [cells_of_block hbk5]; rfl, by rw [cells_of_block hbk5]; rfl⟩
          have hcs2 : ∀ w', Below w2.heap.size w2 w' → w'.cell? ⟨w0.heap.size, 0, none⟩ = some (.string r.name) ∧ w'.cell? ⟨w0.heap.size, 1, none⟩ = some (.slice asg r.data.length csg) ∧ w'.cell? ⟨w0.heap.size, 2, none⟩ = some (.int .i64 r.safe) := fun w' hb => hcs w' (hb2.trans (hb.mono (by have := hb2.size; rw [hszX] at this; exact this)))
          have hln' : Hid (lastOf (rs.take (i + 1)) = r.name) := hln
          clear hD hcs hnx hm2 hm1 hBg hfm Eb Eg hB hln
          generalize lastOf (rs.take i) = la at *
          go_wp2
          go_region_held3 (fun w' => w'.cell? ⟨w0.heap.size, 0, none⟩ = some (.string r.name) ∧ w'.cell? ⟨w0.heap.size, 1, none⟩ = some (.slice asg r.data.length csg) ∧ w'.cell? ⟨w0.heap.size, 2, none⟩ = some (.int .i64 r.safe))
            (first | exact y5 | exact y6 | exact y4 | exact hcs2 _ hdr | go_keep)
            (first
              | (go_at_call 70; refine hcl.mono ?_; rintro e w4 ⟨v4, rfl, hO4, hb4⟩; have y4 := hcs2 _ (hdr.trans hb4); have hk4 := hkp v4 w4 hO4 hb4; have y6 := hcs2 _ ((hdr.trans hb4).trans (((Below.refl w4.heap.size w4).alloc (Nat.le_refl _) (.cells #[v4, .int .i64 r.safe] 120)).mono hb4.size)); obtain ⟨a4, c4, rfl⟩ := hO4.shape)
              | (go_at_call 69; refine hk4.mono ?_; rintro e w5 ⟨rfl, hI5, y5⟩))
          clear hk4 hkp hcs2 hcl y4 y6
          obtain ⟨z0, z1, z2⟩ := y5
          go_wp2
          go_roundg (gk - 1)
          case measure => omega
          case rel => exact ⟨i + 1, by omega, by go_num, by rw [hln'.out], hI5⟩
        · have n1 : (Op.bytesLess r.name.toList (lastOf (rs.take i)).toList || r.name.toList == (lastOf (rs.take i)).toList) = true := by
            rcases strOrd.tot r.name (lastOf (rs.take i)) with h | h | h
            · rw [less_of h]; rfl
            · rw [h]; simp
            · exact absurd h hlast
          have hE := Eb w2 i hlt hbw2 (fun h => hlast (hnx.1 h).2)
          clear Eb Eg hfm hcs hDk hnx hB
          generalize lastOf (rs.take i) = la at *
          go_wp2 <;> first | exact hE.out | (go_ret2; exact hE.out)
    · have hlti : ¬ (i : Int) < (rs.length : Int) := by omega
      obtain rfl : i = rs.length := by omega
      have hE := Eg wr q hI
      clear Eb Eg hI hI0
      go_wp2 <;> first | exact hE.out | (go_ret2; exact hE.out)
end Go.Proofs.YtoipjmjhplkibaaGreatDoor

