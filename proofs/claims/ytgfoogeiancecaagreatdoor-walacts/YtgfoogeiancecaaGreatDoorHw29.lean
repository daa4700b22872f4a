import Derived.Test.YtgfoogeiancecaaGreatDoorHw28
/- The program's New, Read and Files. -/
namespace Go.Proofs.YtgfoogeiancecaaGreatDoor
open Go.RowKit DiskMath
set_option maxRecDepth 100000
set_option linter.unusedSimpArgs false
set_option linter.unusedVariables false

/-- What New leaves: a disk without files, all new. -/
def NewT (w : World) (e : Ending) (w' : World) : Prop :=
  ∃ S d, e = .returned d ∧ Dk S w' d [] ∧ (∀ b, S b → w.heap.size ≤ b) ∧ Below w.heap.size w w'
theorem new_disk (w : World) : NewT w (.returned (.pointer (some ⟨w.heap.size + 1, 0, none⟩))) ((w.alloc (.map #[] 0)).alloc (.cells #[.map (some w.heap.size)] 52)) := by
  have hb1 := (Below.refl w.heap.size w).alloc (Nat.le_refl _) (.map #[] 0)
  have hb2 := (Below.refl _ (w.alloc (.map #[] 0))).alloc (Nat.le_refl _) (.cells #[.map (some w.heap.size)] 52)
  have hs1 : (w.alloc (.map #[] 0)).heap.size = w.heap.size + 1 := by simp
  have hs2 : ((w.alloc (.map #[] 0)).alloc (.cells #[.map (some w.heap.size)] 52)).heap.size = w.heap.size + 2 := by simp
  have hq := heap_alloc_new (w.alloc (.map #[] 0)) (.cells #[.map (some w.heap.size)] 52)
  rw [hs1] at hq
  let ρ : Mark := fun b => if b = w.heap.size + 1 then (1, noName) else if b = w.heap.size then (2, noName) else (0, noName)
  refine ⟨fun b => (ρ b).1 ≠ 0, _, rfl, ⟨ρ, fun _ => none, w.heap.size + 1, w.heap.size, rfl, fun b => Iff.rfl, hq, (Mp.made w).below hb2, ?_, ?_, ?_, ⟨trivial, by simp, by simp⟩, by simp, fun _ _ => rfl, fun n f hf => by simp [get_nil] at hf⟩, ?_, hb1.trans (hb2.mono (by simp))⟩
  · show (if w.heap.size + 1 = w.heap.size + 1 then _ else _) = _
    rw [if_pos rfl]
  · show (if w.heap.size = w.heap.size + 1 then _ else _) = _
    rw [if_neg (by omega), if_pos rfl]
  · intro b hb
    rw [hs2]
    by_cases h1 : b = w.heap.size + 1
    · omega
    · by_cases h2 : b = w.heap.size
      · omega
      · exact absurd (by show (ρ b).1 = 0; simp only [ρ]; rw [if_neg h1, if_neg h2]) hb
  · intro b hb
    by_cases h1 : b = w.heap.size + 1
    · omega
    · by_cases h2 : b = w.heap.size
      · omega
      · exact absurd (by show (ρ b).1 = 0; simp only [ρ]; rw [if_neg h1, if_neg h2]) hb

set_option maxHeartbeats 1000000 in
theorem dnew_of (w : World) : Calls Tryz.prog 4 #[] w (NewT w) := by
  have E : Hid (NewT w (.returned (.pointer (some ⟨w.heap.size + 1, 0, none⟩))) ((w.alloc (.map #[] 0)).alloc (.cells #[.map (some w.heap.size)] 52))) := new_disk w
  have hmk : (Instr.makeMap 50 none).run Tryz.prog w = .ok (.map (some w.heap.size)) (w.alloc (.map #[] 0)) := rfl
  generalize NewT w = T at *
  go_enter Tryz.func4, Tryz.ntmps4
  go_wp2 <;> first | exact E.out | (go_ret; exact E.out)

/-- What Read tells: bytes of its own. -/
def ReadT (w : World) (fs : Files) (n : ByteArray) (e : Ending) (w' : World) : Prop :=
  ∃ v l, e = .returned (.tuple #[v, .bool (get fs n).isSome]) ∧ Own w.heap.size w' v l ∧ Below w.heap.size w w' ∧ l = ((get fs n).map Fl.data).getD []

set_option maxHeartbeats 1000000 in
theorem dread_of {S : Nat → Prop} {w : World} {d : Value} {fs : Files} (n : ByteArray) (hn : n.size ≤ maxLen) (h : Dk S w d fs) : Calls Tryz.prog 59 #[d, .string n] w (ReadT w fs n) := by
  obtain ⟨ρ, M, q, m, rfl, hS, hD⟩ := h
  have hfd := find_of n hD hn
  cases hg : get fs n with
  | none =>
    have hm := hD.no n hg
    have E : Hid (ReadT w fs n (.returned (.tuple #[.slice none 0 0, .bool false])) w) := by
      unfold Hid ReadT
      rw [hg]
      exact ⟨_, [], rfl, Own.nil _ _, Below.refl _ _, rfl⟩
    unfold FindT at hfd
    rw [hm] at hfd
    generalize ReadT w fs n = T at *
    clear hD
    go_enter Tryz.func59, Tryz.ntmps59
    go_wp2_with fail
    refine hfd.mono ?_
    rintro e w1 ⟨rfl, hw1⟩
    rw [hw1]
    clear hw1 w1 hfd
    go_wp2 <;> first | exact E.out | (go_ret2; exact E.out)
  | some f =>
    obtain ⟨p, v, hm, hF⟩ := hD.yes n f hg
    have hs := sound_get hD.sound hg
    letI := keepAll
    have hB : Bs w.heap.size w v f.data := hF.own.bs (Nat.zero_le _)
    have hcl := clone_of w.heap.size f.data v w hB (Nat.le_refl _) (by omega)
    have hvs : ∃ ao cap, v = .slice ao f.data.length cap := hF.own.shape
    obtain ⟨ao, cap, rfl⟩ := hvs
    have c0 : w.cell? ⟨p, 0, none⟩ = some (.slice ao f.data.length cap) := by rw [cells_of_block hF.block]; rfl
    have E : ∀ v' w', Own w.heap.size w' v' f.data → Below w.heap.size w w' → Hid (ReadT w fs n (.returned (.tuple #[v', .bool true])) w') := by
      intro v' w' hO' hb'
      unfold Hid ReadT
      rw [hg]
      exact ⟨_, _, rfl, hO', hb', rfl⟩
    unfold FindT at hfd
    rw [hm] at hfd
    generalize ReadT w fs n = T at *
    clear hD hF hB
    go_enter Tryz.func59, Tryz.ntmps59
    go_wp2_with fail
    refine hfd.mono ?_
    rintro e w1 ⟨rfl, hw1⟩
    rw [hw1]
    clear hw1 w1 hfd
    go_wp2_with fail
    refine hcl.mono ?_
    rintro e w1 ⟨v', rfl, hO', hb'⟩
    have hE := E v' w1 hO' hb'
    clear E hO' hcl
    go_wp2 <;> first | exact hE.out | (go_ret2; exact hE.out)

/-- Files of one's own: their row, and each one's bytes. -/
def Fw (n₀ : Nat) (w : World) (ov : Value) (fs : Files) : Prop :=
  ∃ cs, w.ownsRow n₀ 71 3 ov fs.length (fcells fs cs) ∧ cs.length = fs.length ∧ n₀ ≤ w.heap.size ∧ ∀ (i : Nat) (sv : Value) (f : File), cs[i]? = some sv → fs[i]? = some f → Own n₀ w sv f.data ∧ ∀ k, sv.ownBlock = some k → ov.ownBlock ≠ some k

theorem Own.lt {n₀ : Nat} {w : World} {v : Value} {l : List Nat} (h : Own n₀ w v l) {k : Nat} (hk : v.ownBlock = some k) : n₀ ≤ k ∧ k < w.heap.size := World.ownsRow.lt h k hk
theorem Own.one {n₀ : Nat} {w : World} {v : Value} {l : List Nat} (h : Own n₀ w v l) : v.oneCell' = true := by
  obtain ⟨ao, cap, rfl⟩ := h.shape
  rfl
theorem Fw.below {n₀ : Nat} {w w' : World} {ov : Value} {fs : Files} (h : Fw n₀ w ov fs) (hb : Below w.heap.size w w') : Fw n₀ w' ov fs := by
  obtain ⟨cs, h1, h2, h3, h4⟩ := h
  exact ⟨cs, ownsRow_below h1 hb, h2, Nat.le_trans h3 hb.size, fun i sv f hi hf => ⟨(h4 i sv f hi hf).1.below hb, (h4 i sv f hi hf).2⟩⟩
theorem Fw.nil (n₀ : Nat) (w : World) (h : n₀ ≤ w.heap.size) : Fw n₀ w (.slice none 0 0) [] := ⟨[], World.ownsRow_nil w n₀ _ 3, rfl, h, fun i sv f hi => by simp at hi⟩
theorem Fw.fo [Keep] {n₀ : Nat} {w : World} {ov : Value} {fs : Files} (h : Fw n₀ w ov fs) (hf : kBase ≤ n₀) : Fo n₀ w ov fs := by
  obtain ⟨cs, h1, h2, h3, h4⟩ := h
  refine ⟨cs, h1, ⟨by rw [h2, List.length_map], fun i sv d hi hd => ?_⟩, hf, h3⟩
  rw [List.getElem?_map] at hd
  obtain ⟨f, hff, rfl⟩ := Option.map_eq_some_iff.1 hd
  obtain ⟨g1, g2⟩ := h4 i sv f hi hff
  exact ⟨g1.bs hf, fun _ k hk => ⟨Nat.zero_le _, (g1.lt hk).2, g2 k hk⟩⟩
theorem Fw.shape {n₀ : Nat} {w : World} {ov : Value} {fs : Files} (h : Fw n₀ w ov fs) : ∃ ao cap, ov = .slice ao fs.length cap := by
  obtain ⟨cs, ⟨_, ⟨r1, r2⟩ | ⟨g, cp, _, r1, _⟩⟩, _⟩ := h
  · exact ⟨none, 0, by rw [r1, r2]⟩
  · exact ⟨_, _, r1⟩

set_option maxHeartbeats 1000000 in
theorem run_push_own (w : World) (ty : TypeId) (n₀ : Nat) (ov : Value) (fs : Files) (f : File) (sv : Value) (hF : Fw n₀ w ov fs) (hlen : fs.length ≤ 1000000)
    (hO : Own n₀ w sv f.data) (hk : ∀ k, sv.ownBlock = some k → ov.ownBlock ≠ some k) :
    ∃ ov' w', (Builtin.append_ #[29, 29] ty #[ov, .slice (some ⟨w.heap.size, 0, none⟩) 1 1]).run Tryz.prog (w.alloc (.cells #[.string f.name, sv, .int .i64 (f.safe : Int)] 71)) = .ok ov' w' ∧ Fw n₀ w' ov' (fs ++ [f]) ∧ Below n₀ w w' := by
  obtain ⟨i0, hi, hz0, hz1, hz2⟩ := info_parts infoFile
  have hb1 := (Below.refl w.heap.size w).alloc (Nat.le_refl _) (.cells #[.string f.name, sv, .int .i64 (f.safe : Int)] 71)
  obtain ⟨cs, g2, g3, hn₀, g4⟩ := hF
  have h2 := ownsRow_below g2 hb1
  have hsz := hb1.size
  obtain ⟨ov', w', hrun, hR, hg, hfr⟩ := run_append_own2 (w.alloc (.cells #[.string f.name, sv, .int .i64 (f.safe : Int)] 71)) n₀ 29 ty 71 i0 _ 3 48 Tryz.underlying29 hi hz0 hz1 hz2 rfl (by decide) ov fs.length (fcells fs cs) h2
    ⟨w.heap.size, 0, none⟩ 1 1 [.string f.name, sv, .int .i64 (f.safe : Int)] rfl (by
      intro j u hj
      rw [Addr.add_lit, cells_of_block (heap_alloc_new w _), Nat.zero_add, ← Array.getElem?_toList]
      exact hj) (by
      intro u hu
      simp only [List.mem_cons, List.not_mem_nil, or_false] at hu
      rcases hu with rfl | rfl | rfl
      · rfl
      · exact hO.one
      · rfl) (by unfold maxLen; omega) (by omega) (Nat.le_trans hn₀ hsz)
  have hmove : ∀ u d, Own n₀ w u d → (∀ k, u.ownBlock = some k → ov.ownBlock ≠ some k) → Own n₀ w' u d ∧ ∀ k, u.ownBlock = some k → ov'.ownBlock ≠ some k := by
    intro u d hu hu2
    refine ⟨(hu.below hb1).same fun k hk' => hg.block k (Nat.lt_of_lt_of_le (hu.lt hk').2 hsz) (fun e => hu2 k hk' e.symm), fun k hk' e => ?_⟩
    rcases hfr k e with h | h
    · exact hu2 k hk' h
    · have := (hu.lt hk').2; omega
  refine ⟨ov', w', hrun, ⟨cs ++ [sv], ?_, by simp [g3], Nat.le_trans hn₀ (Nat.le_trans hsz hg.size), ?_⟩, ?_⟩
  · rw [List.length_append, fcells_append f sv fs cs g3]
    exact hR
  · intro i u g hi' hg'
    by_cases hil : i < cs.length
    · rw [List.getElem?_append_left hil] at hi'
      rw [List.getElem?_append_left (by omega)] at hg'
      obtain ⟨q1, q2⟩ := g4 i u g hi' hg'
      exact hmove u g.data q1 q2
    · have hie : i = cs.length := by
        have := (List.getElem?_eq_some_iff.1 hi').1
        simp at this
        omega
      subst hie
      rw [List.getElem?_append_right (Nat.le_refl _), Nat.sub_self] at hi'
      rw [g3, List.getElem?_append_right (Nat.le_refl _), Nat.sub_self] at hg'
      simp only [List.getElem?_cons_zero, Option.some.injEq] at hi' hg'
      subst hi' hg'
      exact hmove _ _ hO hk
  · exact (hb1.mono hn₀).trans ((Below.refl n₀ _).grown hg (Nat.le_trans hn₀ hsz) (fun k hk => (World.ownsRow.lt h2 k hk).1))

/-- append of a file, as one step of a region that draws its order. -/
theorem step_push_own {ops : Array Oper} {o : Oper} {a : Act} {w : World} {K : Act → World → Prop} {Q : Exit → Act → World → Prop} {E : Prop}
    (hg : o.guard = none) (s x : Operand) (ho : o.op = .call { callee := .builtin .append, args := #[s, x], argTypes := #[29, 29] })
    (n₀ : Nat) (ov : Value) (fs : Files) (f : File) (sv : Value) (hF : Fw n₀ w ov fs) (hlen : fs.length ≤ 1000000) (hO : Own n₀ w sv f.data) (hk : ∀ k, sv.ownBlock = some k → ov.ownBlock ≠ some k)
    (hs : a.eval s = ov) (hx : a.eval x = .slice (some ⟨w.heap.size, 0, none⟩) 1 1)
    (hK : ∀ ov' w', Fw n₀ w' ov' (fs ++ [f]) → Below n₀ w w' → K (a.put o.dst ov') w') :
    if Region.wanted o (yielded ops a.tmps) = true then Oper.wp Tryz.prog o a (w.alloc (.cells #[.string f.name, sv, .int .i64 (f.safe : Int)] 71)) K Q else E := by
  have hw : Region.wanted o (yielded ops a.tmps) = true := by simp [Region.wanted, hg]
  rw [if_pos hw]
  obtain ⟨v', w', hrun, r1, r2⟩ := run_push_own w o.type n₀ ov fs f sv hF hlen hO hk
  unfold Oper.wp
  simp [execOp, ho, resolve, invoke, builtin, hs, hx, hrun, Result.andThen]
  exact hK v' w' r1 r2
end Go.Proofs.YtgfoogeiancecaaGreatDoor

/- The program's Files: all files, by rising names, in memory of the call's own. -/
namespace Go.Proofs.YtgfoogeiancecaaGreatDoor
open Go.RowKit DiskMath
set_option maxRecDepth 100000
set_option linter.unusedSimpArgs false
set_option linter.unusedVariables false

/-- What Files tells. -/
def FilesT (w : World) (fs : Files) (e : Ending) (w' : World) : Prop := ∃ ov, e = .returned ov ∧ Fw w.heap.size w' ov fs ∧ Below w.heap.size w w'

theorem Fw.mono {n₀ n₁ : Nat} {w : World} {ov : Value} {fs : Files} (h : Fw n₀ w ov fs) (hn : n₁ ≤ n₀) : Fw n₁ w ov fs := by
  obtain ⟨cs, h1, h2, h3, h4⟩ := h
  exact ⟨cs, ⟨h1.1, h1.2.imp id fun ⟨g, cap, cur, r1, r2, r3⟩ => ⟨g, cap, cur, r1, Nat.le_trans hn r2, r3⟩⟩, h2, Nat.le_trans hn h3, fun i sv f hi hf => ⟨(h4 i sv f hi hf).1.mono hn, (h4 i sv f hi hf).2⟩⟩
theorem Fw.row {n₀ : Nat} {w : World} {ov : Value} {fs : Files} (h : Fw n₀ w ov fs) {k : Nat} (hk : ov.ownBlock = some k) : n₀ ≤ k ∧ k < w.heap.size := by
  obtain ⟨cs, h1, _⟩ := h
  exact World.ownsRow.lt h1 k hk

theorem take_snoc {α : Type} {l : List α} {i : Nat} {x : α} (h : l[i]? = some x) : l.take (i + 1) = l.take i ++ [x] := by
  rw [List.take_add_one, h]
  rfl

set_option maxHeartbeats 2000000 in
theorem dfiles_of {S : Nat → Prop} {w : World} {d : Value} {fs : Files} (h : Dk S w d fs) : Calls Tryz.prog 54 #[d] w (FilesT w fs) := by
  letI := keepAll
  obtain ⟨ρ, M, q, m, rfl, hS, hD⟩ := h
  have hgv := given_of hD
  have hnm := names_of hD
  have hl := hD.sound.2.1
  have hmt := Tryz.underlying50
  have E : ∀ ov w', Fw w.heap.size w' ov fs → Below w.heap.size w w' → Hid (FilesT w fs (.returned ov) w') := fun ov w' h1 h2 => ⟨ov, rfl, h1, h2⟩
  generalize FilesT w fs = T at *
  go_enter Tryz.func54, Tryz.ntmps54
  go_wp2_with fail
  refine hgv.mono ?_
  rintro e w1 ⟨rfl, hw1⟩
  rw [hw1]
  clear hw1 w1 hgv
  go_wp2_with fail
  refine hnm.mono ?_
  rintro e w1 ⟨nv, rfl, hT1, hb1⟩
  obtain ⟨an, cn, rfl, hnames⟩ := id hT1
  clear hnm
  have hnl : (fs.map Fl.name).length = fs.length := by simp
  rw [hnl]
  go_wp2
  go_loopg [3, 13] fs.length (fun g s3 s13 wr => ∃ i : Nat, i + g = fs.length ∧ s13 = .int .i64 (i : Int) ∧ Fw w1.heap.size wr s3 (fs.take i) ∧ Below w1.heap.size w1 wr)
  case atStart => exact ⟨0, by simp, rfl, Fw.nil _ _ (Nat.le_refl _), Below.refl _ _⟩
  case round =>
    obtain ⟨i, hi, rfl, hW, hbr⟩ := hrel
    by_cases hlt : i < fs.length
    · have hlti : (i : Int) < (fs.length : Int) := by omega
      have hbw : Below w.heap.size w wr := hb1.trans (hbr.mono hb1.size)
      have hDr := hD.below hbw
      have hx : fs[i]? = some fs[i] := List.getElem?_eq_getElem hlt
      have htk : Hid (fs.take (i + 1) = fs.take i ++ [fs[i]]) := take_snoc hx
      have hgf := hD.sound.1.get_of_mem (List.mem_of_getElem? hx)
      have hsd := sound_get hD.sound hgf
      obtain ⟨b, off, hbn, hcn, -⟩ := hnames i fs[i].name (by rw [List.getElem?_map, hx]; rfl)
      subst hbn
      have hcn' : wr.cell? ⟨b, off + i, none⟩ = some (.string fs[i].name) := (hbr.cell (p := ⟨b, off + i, none⟩) (World.block_lt_of_cell? w1 _ hcn)).trans hcn
      generalize fs[i] = f at *
      have hns : f.name.size ≤ maxLen := by have := (may_size hsd.1).2; unfold maxLen; omega
      obtain ⟨p, v, hm, hF⟩ := hDr.yes f.name f hgf
      have hcq := hDr.cell
      have hMr := hDr.map
      have hz := DiskAt.zeroF wr
      have hvs : ∃ ao cap, v = .slice ao f.data.length cap := hF.own.shape
      obtain ⟨ao, cap, rfl⟩ := hvs
      have hdr : Below wr.heap.size wr wr.drew := (Below.refl _ _).drew
      have hcs : ∀ w', Below w.heap.size w w' → w'.cell? ⟨p, 0, none⟩ = some (.slice ao f.data.length cap) ∧ w'.cell? ⟨p, 1, none⟩ = some (.int .i64 (f.safe : Int)) := fun w' hb => by
        have hpl := hD.lt p (by rw [hF.mark]; simp)
        have hp1 := (hb.block p hpl).trans ((hbw.block p hpl).symm.trans hF.block)
        exact ⟨by rw [cells_of_block hp1]; rfl, by rw [cells_of_block hp1]; rfl⟩
      have hcl := clone_of wr.heap.size f.data (.slice ao f.data.length cap) wr.drew ((hF.own.bs (Nat.zero_le _)).below hdr) (Nat.le_refl _) (by omega)
      have hgetD : (M f.name).getD (.pointer none) = .pointer (some ⟨p, 0, none⟩) := by rw [hm]; rfl
      obtain ⟨a3, c3, rfl⟩ := hW.shape
      have hpush : ∀ v4 w4, Own wr.drew.heap.size w4 v4 f.data → Below wr.heap.size wr w4 → Own w1.heap.size w4 v4 f.data ∧ (∀ k, v4.ownBlock = some k → (Value.slice a3 (fs.take i).length c3).ownBlock ≠ some k) ∧ Fw w1.heap.size w4 (.slice a3 (fs.take i).length c3) (fs.take i) := by
        intro v4 w4 hO4 hb4
        refine ⟨hO4.mono hbr.size, fun k hk e => ?_, hW.below hb4⟩
        have h1 := (hO4.lt hk).1
        have h2 := (hW.row e).2
        have h3 : wr.drew.heap.size = wr.heap.size := rfl
        omega
      have hfl : (fs.take i).length ≤ 1000000 := by rw [List.length_take]; omega
      generalize hG : fs.take i = G at *
      generalize fs.length = c at *
      clear hD hDr hF hgf hnames hT1 hx hW hcn
      go_wp2_with (refine wp_mp_at rfl _ _ _ _ rfl hmt hz m c M hMr rfl f.name rfl hns ?_)
      go_region_held3 (fun w' => w'.cell? ⟨p, 0, none⟩ = some (.slice ao f.data.length cap) ∧ w'.cell? ⟨p, 1, none⟩ = some (.int .i64 (f.safe : Int)))
        (first | exact x5 | exact x6 | exact x4 | exact hcs _ (hbw.trans (hdr.mono hbw.size)) | go_keep)
        (first
          | (go_at_call 79; refine hcl.mono ?_; rintro e w4 ⟨v4, rfl, hO4, hb4⟩; have hb4' := hdr.trans hb4; have hbw4 := hbw.trans (hb4'.mono hbw.size); have x4 := hcs _ hbw4; obtain ⟨y1, y2, y3⟩ := hpush v4 w4 hO4 hb4'; obtain ⟨a4, c4, rfl⟩ := hO4.shape; have x6 := hcs _ (hbw4.trans (((Below.refl w4.heap.size w4).alloc (Nat.le_refl _) (.cells #[.string f.name, .slice a4 f.data.length c4, .int .i64 (f.safe : Int)] 71)).mono hbw4.size)))
          | (refine step_push_own (by rfl) _ _ (by rfl) w1.heap.size _ G f _ y3 hfl y1 y2 (by rfl) (by rfl) ?_; intro ov5 w5 hW5 hb5; have x5 := hcs _ (hbw4.trans (hb5.mono hb1.size))))
      have hb15 : Below w1.heap.size w1 w5 := (hbr.trans (hb4'.mono hbr.size)).trans hb5
      clear hpush hcs hcl y1 y2 y3 x4 x5 x6 hO4 hMr
      go_wp2
      go_roundg (gk - 1)
      case measure => omega
      case rel => exact ⟨i + 1, by omega, by go_num, by rw [htk.out]; exact hW5, hb15⟩
    · have hlti : ¬ (i : Int) < (fs.length : Int) := by omega
      rw [List.take_of_length_le (by omega)] at hW
      have hE := E _ _ (hW.mono hb1.size) (hb1.trans (hbr.mono hb1.size))
      clear E hW
      go_wp2 <;> first | exact hE.out | (go_ret; exact hE.out)
end Go.Proofs.YtgfoogeiancecaaGreatDoor

/- The program's Crash: file by file, by rising names. -/
namespace Go.Proofs.YtgfoogeiancecaaGreatDoor
open Go.RowKit DiskMath
set_option maxRecDepth 100000
set_option linter.unusedSimpArgs false
set_option linter.unusedVariables false

/-- Files of which the first i have crashed. -/
def mid (fs : Files) (cuts : List Int) (i : Nat) : Files := (crash fs cuts).take i ++ fs.drop i
theorem mid_zero (fs : Files) (cuts : List Int) : mid fs cuts 0 = fs := by simp [mid]
theorem mid_all (fs : Files) (cuts : List Int) : mid fs cuts fs.length = crash fs cuts := by
  unfold mid
  rw [List.take_of_length_le (by rw [crash_length]; exact Nat.le_refl _), List.drop_length, List.append_nil]
theorem mid_names (fs : Files) (cuts : List Int) (i : Nat) : (mid fs cuts i).map Fl.name = fs.map Fl.name := by
  unfold mid
  rw [List.map_append, List.map_take, List.map_drop, crash_names, List.take_append_drop]
theorem mid_get {fs : Files} {cuts : List Int} {i : Nat} {f : File} (h : fs[i]? = some f) : (mid fs cuts i)[i]? = some f := by
  have hi := (List.getElem?_eq_some_iff.1 h).1
  unfold mid
  rw [List.getElem?_append_right (by rw [List.length_take, crash_length]; omega), List.length_take, crash_length, List.getElem?_drop, Nat.min_eq_left (by omega)]
  simpa using h

/-- A file turned in its place. -/
theorem put_place {fs : Files} (h : Rises strOrd fs) {i : Nat} {f g : File} (hf : fs[i]? = some f) (hn : g.name = f.name) : putF fs g = fs.take i ++ g :: fs.drop (i + 1) := by
  have hi := (List.getElem?_eq_some_iff.1 hf).1
  have hfs : fs = fs.take i ++ f :: fs.drop (i + 1) := by
    have e : fs[i] = f := by rw [List.getElem?_eq_getElem hi] at hf; exact Option.some.inj hf
    rw [← e, ← List.drop_eq_getElem_cons hi, List.take_append_drop]
  have hnm : (fs.take i ++ g :: fs.drop (i + 1)).map Fl.name = fs.map Fl.name := by
    conv => rhs; rw [hfs]
    simp [hn]
  refine rises_ext (put_rises h) (rises_names hnm.symm h) fun k => ?_
  have hR := rises_names hnm.symm h
  have e1 : get (putF fs g) k = if g.name = k then some g else get fs k := put_get k h
  rw [e1]
  by_cases hk : g.name = k
  · rw [if_pos hk]
    have := hR.get_of_mem (f := g) (by simp)
    rw [hk] at this
    exact this.symm
  · rw [if_neg hk]
    have hsplit : ∀ (a b : Files) (y : File), y.name ≠ k → get (a ++ y :: b) k = get (a ++ b) k := by
      intro a b y hy
      unfold DiskMath.get
      rw [List.find?_append, List.find?_append, List.find?_cons]
      simp [hy]
    rw [hsplit _ _ _ hk]
    conv => lhs; rw [hfs]
    exact hsplit _ _ _ (fun e => hk (hn.trans e))

theorem mid_succ {fs : Files} (h : Rises strOrd fs) (cuts : List Int) {i : Nat} {f : File} (hf : fs[i]? = some f) : putF (mid fs cuts i) (crashOne f cuts[i]?) = mid fs cuts (i + 1) := by
  have hi := (List.getElem?_eq_some_iff.1 hf).1
  rw [put_place (g := crashOne f cuts[i]?) (rises_names (mid_names fs cuts i).symm h) (mid_get hf) rfl]
  have hcl : ((crash fs cuts).take i).length = i := by rw [List.length_take, crash_length]; omega
  have e1 : (mid fs cuts i).take i = (crash fs cuts).take i := by
    unfold mid
    rw [List.take_append_of_le_length (by omega), List.take_of_length_le (by omega)]
  have e2 : (mid fs cuts i).drop (i + 1) = fs.drop (i + 1) := by
    unfold mid
    rw [List.drop_append, hcl, List.drop_eq_nil_of_le (by omega), List.nil_append, List.drop_drop]
    congr 1
    omega
  rw [e1, e2]
  unfold mid
  rw [take_snoc (x := crashOne f cuts[i]?) (by rw [crash_get?, hf]; rfl)]
  simp

/-- What a crash leaves so far. -/
theorem Leaves.step {S S1 : Nat → Prop} {w w1 w2 : World} {d : Value} {gs : Files} (hs : Step S S1 w) (hk : Kept S w w1) (hl : Leaves S1 w1 d gs w2) : Leaves S w d gs w2 := by
  obtain ⟨S2, h1, h2, h3⟩ := hl
  refine ⟨S2, h1, fun b hb => (h2 b hb).elim (hs b) fun h => .inr (Nat.le_trans hk.size h), h3.os.trans hk.os, h3.tape.trans hk.tape, h3.output.trans hk.output, Nat.le_trans hk.size h3.size, fun k hlt hns => ?_⟩
  refine (h3.block k (Nat.lt_of_lt_of_le hlt hk.size) fun h => ?_).trans (hk.block k hlt hns)
  rcases hs k h with h | h
  · exact hns h
  · omega

set_option maxHeartbeats 2000000 in
theorem dcrash_of {S : Nat → Prop} {w : World} {d : Value} {fs : Files} (cv : Value) (cuts : List Int) (h : Dk S w d fs) (hC : ∀ w', Kept S w w' → Nv w' cv cuts) : Calls Tryz.prog 14 #[d, cv] w (DidC Dk S d w (crash fs cuts)) := by
  have hSl : ∀ b, S b → b < w.heap.size := by
    obtain ⟨ρ, M, q, m, rfl, hS, hD⟩ := id h
    exact fun b hb => hD.lt b ((hS b).1 hb)
  have hsd : SoundF fs := by
    obtain ⟨ρ, M, q, m, rfl, hS, hD⟩ := id h
    exact hD.sound
  have hl := hsd.2.1
  have E : ∀ w', Leaves S w d (crash fs cuts) w' → Hid (DidC Dk S d w (crash fs cuts) (.returned (.tuple #[])) w') := fun w' h1 => ⟨rfl, h1⟩
  have hnm : Calls Tryz.prog 39 #[d] w (NamesT w fs) := by
    obtain ⟨ρ, M, q, m, rfl, hS, hD⟩ := id h
    exact names_of hD
  have hgv : Calls Tryz.prog 38 #[d] w fun e w' => e = .returned (.bool true) ∧ w' = w := by
    obtain ⟨ρ, M, q, m, rfl, hS, hD⟩ := id h
    exact given_of hD
  have hmt := Tryz.underlying50
  have hcv : ∃ ac cc, cv = .slice ac cuts.length cc := by
    obtain ⟨ac, cc, e, _⟩ := hC w ⟨rfl, rfl, rfl, Nat.le_refl _, fun _ _ _ => rfl⟩
    exact ⟨ac, cc, e⟩
  obtain ⟨ac, cc, rfl⟩ := hcv
  have hdv : ∃ q, d = .pointer (some ⟨q, 0, none⟩) := by
    obtain ⟨ρ, M, q, m, rfl, hS, hD⟩ := id h
    exact ⟨q, rfl⟩
  obtain ⟨q, rfl⟩ := hdv
  generalize DidC Dk S (.pointer (some ⟨q, 0, none⟩)) w (crash fs cuts) = T at *
  go_enter Tryz.func14, Tryz.ntmps14
  go_wp2_with fail
  refine hgv.mono ?_
  rintro e w1 ⟨rfl, hw1⟩
  rw [hw1]
  clear hw1 w1 hgv
  go_wp2_with fail
  refine hnm.mono ?_
  rintro e w1 ⟨nv, rfl, hT1, hb1⟩
  obtain ⟨an, cn, rfl, hnames⟩ := id hT1
  have hL1 := Leaves.below h hb1
  clear hnm
  have hnl : (fs.map Fl.name).length = fs.length := by simp
  rw [hnl]
  go_wp2
  go_loopg [13] fs.length (fun g s13 wr => ∃ i : Nat, i + g = fs.length ∧ s13 = .int .i64 (i : Int) ∧ Leaves S w1 (.pointer (some ⟨q, 0, none⟩)) (mid fs cuts i) wr)
  case atStart =>
    refine ⟨0, by simp, rfl, ?_⟩
    rw [mid_zero]
    obtain ⟨ρ, M, q', m, hq', hS, hD⟩ := id h
    exact Leaves.refl ⟨ρ, M, q', m, hq', hS, hD.below hb1⟩
  case round =>
    obtain ⟨i, hi, rfl, hLr⟩ := hrel
    by_cases hlt : i < fs.length
    · have hlti : (i : Int) < (fs.length : Int) := by omega
      have hx : fs[i]? = some fs[i] := List.getElem?_eq_getElem hlt
      have hms := mid_succ hsd.1 cuts hx
      obtain ⟨b, off, hbn, hcn, hbb⟩ := hnames i fs[i].name (by rw [List.getElem?_map, hx]; rfl)
      subst hbn
      obtain ⟨S1, hD1, hs1, hk1⟩ := hLr
      have hNb : ¬ S b := fun hb => by have := hSl b hb; omega
      have hcn' : wr.cell? ⟨b, off + i, none⟩ = some (.string fs[i].name) := hk1.cell (p := ⟨b, off + i, none⟩) hcn hNb
      have hCr := hC wr (Kept.after hb1 hk1)
      obtain ⟨ρ, M, q', m, hq', hS', hDr⟩ := hD1
      cases hq'
      have hgf := hDr.sound.1.get_of_mem (List.mem_of_getElem? (mid_get (cuts := cuts) hx))
      have hsf := sound_get hDr.sound hgf
      generalize fs[i] = f at *
      have hns : f.name.size ≤ maxLen := by have := (may_size hsf.1).2; unfold maxLen; omega
      obtain ⟨p, v, hm, hF⟩ := hDr.yes f.name f hgf
      have hcq := hDr.cell
      have hMr := hDr.map
      have hz := DiskAt.zeroF wr
      have hgetD : (M f.name).getD (.pointer none) = .pointer (some ⟨p, 0, none⟩) := by rw [hm]; rfl
      have hfin : ∀ (c : Int) w2, left f (some c) = left f cuts[i]? → FileT wr p (f.data.take (left f (some c))) (left f (some c)) (.returned (.tuple #[])) w2 → Hid (Leaves S w1 (.pointer (some ⟨q, 0, none⟩)) (mid fs cuts (i + 1)) w2) := by
        intro c w2 hc hT
        rw [hc] at hT
        have hbd := left_bounds f cuts[i]? hsf.2.2
        have := turn_file hDr hS' hgf hm hF hT (by rw [List.length_take]; omega) (by rw [List.length_take]; omega) (fun x hx => hDr.byte f (get_mem hgf) x (List.mem_of_mem_take hx))
        unfold crashOne at hms
        rw [hms] at this
        exact this.step hs1 hk1
      have hcr := fun c => fcrash_of c hF.block hF.own hsf.2.2 hsf.2.1
      have hE0 : ∀ c e w2, FileT wr p (f.data.take (left f (some c))) (left f (some c)) e w2 → e = .returned (.tuple #[]) := fun c e w2 hT => hT.1
      generalize hFT : FileT = FT at *
      generalize (mid fs cuts i).length = c9 at *
      generalize fs.length = c8 at *
      clear hDr hF hgf hnames hT1 hx hcn hms hL1 h hC
      by_cases hic : i < cuts.length
      · have hici : (i : Int) < (cuts.length : Int) := by omega
        have hcx : cuts[i]? = some cuts[i] := List.getElem?_eq_getElem hic
        obtain ⟨a1, a2, a3, -, a4⟩ := hCr
        cases a3
        obtain ⟨bc, oc, hac, hcc⟩ := a4 i cuts[i] hcx
        subst hac
        rw [hcx] at hfin
        generalize cuts[i] = c at *
        clear a4
        have hcr1 := hcr c
        clear hcr
        go_wp2_with (refine wp_mp_at rfl _ _ _ _ rfl hmt hz m c9 M hMr rfl f.name rfl hns ?_)
        refine hcr1.mono ?_
        intro e w2 hT
        obtain rfl := hE0 _ _ _ hT
        have hL := hfin c w2 rfl hT
        clear hfin hcr1 hT hMr
        go_wp2
        go_roundg (gk - 1)
        case measure => omega
        case rel => exact ⟨i + 1, by omega, by go_num, hL.out⟩
      · have hici : ¬ (i : Int) < (cuts.length : Int) := by omega
        have hcx : cuts[i]? = none := List.getElem?_eq_none (by omega)
        rw [hcx] at hfin
        have h0 : left f (some 0) = left f none := by unfold left; simp
        have hcr1 := hcr 0
        clear hcr hCr
        go_wp2_with (refine wp_mp_at rfl _ _ _ _ rfl hmt hz m c9 M hMr rfl f.name rfl hns ?_)
        refine hcr1.mono ?_
        intro e w2 hT
        obtain rfl := hE0 _ _ _ hT
        have hL := hfin 0 w2 h0 hT
        clear hfin hcr1 hT hMr
        go_wp2
        go_roundg (gk - 1)
        case measure => omega
        case rel => exact ⟨i + 1, by omega, by go_num, hL.out⟩
    · have hlti : ¬ (i : Int) < (fs.length : Int) := by omega
      obtain rfl : i = fs.length := by omega
      rw [mid_all] at hLr
      have hE := E wr (hLr.step (w := w) (S1 := S) (fun b hb => .inl hb) (Below.kept hb1))
      clear E hLr
      go_wp2 <;> first | exact hE.out | (go_end0; exact hE.out)
end Go.Proofs.YtgfoogeiancecaaGreatDoor

/- The program's disk is a disk; the contract of awake. -/
namespace Go.Proofs.YtgfoogeiancecaaGreatDoor
open Go.RowKit DiskMath
set_option maxRecDepth 100000
set_option linter.unusedSimpArgs false
set_option linter.unusedVariables false

theorem diskOf : DiskOf Dk where
  lt := fun h b hb => by
    obtain ⟨ρ, M, q, m, rfl, hS, hD⟩ := h
    exact hD.lt b ((hS b).1 hb)
  sound := fun h => by
    obtain ⟨ρ, M, q, m, rfl, hS, hD⟩ := h
    exact hD.sound
  kept := fun h hsz hs => by
    obtain ⟨ρ, M, q, m, rfl, hS, hD⟩ := h
    exact ⟨ρ, M, q, m, rfl, hS, hD.same hsz fun b hb => hs b ((hS b).2 hb)⟩
  append := fun n bv bl h hB hby hl => dappend_of n bv bl h hB hby hl
  sync := fun n hn h => dsync_of n hn h
  cut := fun n k hn h => dcut_of n k hn h
  remove := fun n hn h => dremove_of n hn h
  crash := fun cv cuts h hC => dcrash_of cv cuts h hC

theorem Dk.shape {S : Nat → Prop} {w : World} {d : Value} {fs : Files} (h : Dk S w d fs) : ∃ q, d = .pointer (some ⟨q, 0, none⟩) := by
  obtain ⟨ρ, M, q, m, rfl, hS, hD⟩ := h
  exact ⟨q, rfl⟩
theorem Dk.byte {S : Nat → Prop} {w : World} {d : Value} {fs : Files} (h : Dk S w d fs) : ∀ f ∈ fs, ∀ c ∈ f.data, c < 256 := by
  obtain ⟨ρ, M, q, m, rfl, hS, hD⟩ := h
  exact hD.byte

/-- A disk of the call's own stays one, and nothing else turns. -/
theorem fresh_step {n : Nat} {S S' : Nat → Prop} {w1 w2 : World} (hS : ∀ b, S b → n ≤ b) (hn : n ≤ w1.heap.size) (hst : Step S S' w1) (hk : Kept S w1 w2) : (∀ b, S' b → n ≤ b) ∧ Below n w1 w2 :=
  ⟨fun b hb => (hst b hb).elim (hS b) fun h => Nat.le_trans hn h, hk.below hn hS⟩

end Go.Proofs.YtgfoogeiancecaaGreatDoor

