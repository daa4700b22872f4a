import Derived.Test.YtoipjmjhplkibaaGreatDoorW19
import Derived.Sort.Walk0
import Derived.BigQuiet
import Derived.Laws.Cover1
/- Files in a row of one's own; the contracts of the document's own Read, put and out. -/
namespace Go.Proofs.YtoipjmjhplkibaaGreatDoor
open Go.RowKit DiskMath
set_option maxRecDepth 100000
set_option linter.unusedSimpArgs false

theorem infoFile : (Tryz.prog.info? 67).map (fun i => (i.zero, i.size, i.bytes)) = some (some (.agg #[.string ByteArray.empty, .slice none 0 0, .int .i64 0]), 3, 48) := by kernel_rfl

/-- Files as cells. -/
def fcells : Files → List Value → List Value
  | f :: fs, sv :: cs => .string f.name :: sv :: .int .i64 (f.safe : Int) :: fcells fs cs
  | _, _ => []
theorem fcells_append (y : File) (u : Value) : ∀ (fs : Files) (cs : List Value), cs.length = fs.length → fcells (fs ++ [y]) (cs ++ [u]) = fcells fs cs ++ [.string y.name, u, .int .i64 (y.safe : Int)]
  | [], [], _ => rfl
  | x :: fs, sv :: cs, h => by
    simp only [List.cons_append, fcells]
    rw [fcells_append y u fs cs (by simpa using h)]
  | [], _ :: _, h => by simp at h
  | _ :: _, [], h => by simp at h
theorem fcells_get : ∀ (fs : Files) (cs : List Value) (i : Nat) (x : File) (sv : Value), fs[i]? = some x → cs[i]? = some sv → (fcells fs cs)[3 * i]? = some (.string x.name) ∧ (fcells fs cs)[3 * i + 1]? = some sv ∧ (fcells fs cs)[3 * i + 2]? = some (.int .i64 (x.safe : Int))
  | [], _, i, x, sv, h, _ => by simp at h
  | _ :: _, [], i, x, sv, _, h => by simp at h
  | y :: fs, u :: cs, 0, x, sv, h, h' => by
    simp only [List.getElem?_cons_zero, Option.some.injEq] at h h'
    subst h h'
    exact ⟨rfl, rfl, rfl⟩
  | y :: fs, u :: cs, i + 1, x, sv, h, h' => by
    obtain ⟨h1, h2, h3⟩ := fcells_get fs cs i x sv (by simpa using h) (by simpa using h')
    refine ⟨?_, ?_, ?_⟩
    · rw [show 3 * (i + 1) = 3 * i + 1 + 1 + 1 by omega]
      simpa [fcells] using h1
    · rw [show 3 * (i + 1) + 1 = 3 * i + 1 + 1 + 1 + 1 by omega]
      simpa [fcells] using h2
    · rw [show 3 * (i + 1) + 2 = 3 * i + 2 + 1 + 1 + 1 by omega]
      simpa [fcells] using h3

/-- Files at ov, their row in memory from block n₀ on. -/
def Fo [Keep] (n₀ : Nat) (w : World) (ov : Value) (fs : Files) : Prop :=
  ∃ cs, w.ownsRow n₀ 67 3 ov fs.length (fcells fs cs) ∧ Els 0 w (fun k => ov.ownBlock = some k) cs (fs.map Fl.data) ∧ kBase ≤ n₀ ∧ n₀ ≤ w.heap.size

theorem Fo.below [Keep] {n₀ : Nat} {w w' : World} {ov : Value} {fs : Files} (h : Fo n₀ w ov fs) (hb : Below w.heap.size w w') : Fo n₀ w' ov fs := by
  obtain ⟨cs, h1, h2, h3, h4⟩ := h
  exact ⟨cs, ownsRow_below h1 hb, h2.below hb, h3, Nat.le_trans h4 hb.size⟩
theorem Fo.shape [Keep] {n₀ : Nat} {w : World} {ov : Value} {fs : Files} (h : Fo n₀ w ov fs) : ∃ ao cap, ov = .slice ao fs.length cap := by
  obtain ⟨cs, ⟨_, ⟨r1, r2⟩ | ⟨g, cp, _, r1, _⟩⟩, _⟩ := h
  · exact ⟨none, 0, by rw [r1, r2]⟩
  · exact ⟨_, _, r1⟩
theorem Fo.none [Keep] (w : World) (hf : kBase ≤ w.heap.size) : Fo w.heap.size (w.alloc (.cells #[] 67)) (.slice (some ⟨w.heap.size, 0, none⟩) 0 0) [] :=
  ⟨[], World.ownsRow_made w #[] 0 (Nat.le_refl _) (Nat.zero_le _) rfl, Els.nil _ _ _, hf, by simp⟩
theorem Fo.fv [Keep] {n₀ : Nat} {w : World} {ov : Value} {fs : Files} (h : Fo n₀ w ov fs) : Fv w ov fs := by
  obtain ⟨ao, cap, e⟩ := h.shape
  obtain ⟨cs, h2, h4, h5, h6⟩ := h
  refine ⟨Nat.le_trans h5 h6, ao, cap, e, fun i x hx => ?_⟩
  have hi : i < fs.length := (List.getElem?_eq_some_iff.1 hx).1
  obtain ⟨g, cp, e2, _, hc⟩ := row_cell h2 (by omega)
  have hil : i < cs.length := by rw [h4.1, List.length_map]; exact hi
  have hsv := List.getElem?_eq_getElem hil
  obtain ⟨c1, c2, c3⟩ := fcells_get fs cs i x _ hx hsv
  rw [e] at e2
  simp only [Value.slice.injEq] at e2
  rw [Nat.mul_comm] at c1 c2 c3
  exact ⟨g, 0, cs[i], e2.1, hc _ _ c1, by rw [Nat.add_assoc]; exact hc _ _ c2, by rw [Nat.add_assoc]; exact hc _ _ c3, (h4.2 i _ x.data hsv (by simp [hx])).1, kNew g (Nat.le_trans h5 (World.ownsRow.lt h2 g (by rw [e, e2.1]; rfl)).1)⟩

/-- A file as a value. -/
def fval (f : File) (sv : Value) : Value := .agg #[.string f.name, sv, .int .i64 (f.safe : Int)]

set_option maxHeartbeats 1000000 in
theorem run_push_file [Keep] (w : World) (ty : TypeId) (n₀ : Nat) (ov : Value) (fs : Files) (f : File) (sv : Value) (hF : Fo n₀ w ov fs) (hn₀ : n₀ ≤ w.heap.size) (hlen : fs.length ≤ 1000000)
    (hB : Bs w.heap.size w sv f.data) (hk : f.data ≠ [] → ∀ k, sv.ownBlock = some k → k < w.heap.size ∧ ¬ ov.ownBlock = some k) :
    ∃ ov' w', (Builtin.append_ #[29, 29] ty #[ov, .slice (some ⟨w.heap.size, 0, none⟩) 1 1]).run Tryz.prog (w.alloc (.cells #[.string f.name, sv, .int .i64 (f.safe : Int)] 67)) = .ok ov' w' ∧ Fo n₀ w' ov' (fs ++ [f]) ∧ Below n₀ w w' := by
  obtain ⟨i0, hi, hz0, hz1, hz2⟩ := info_parts infoFile
  have hb1 := (Below.refl w.heap.size w).alloc (Nat.le_refl _) (.cells #[.string f.name, sv, .int .i64 (f.safe : Int)] 67)
  obtain ⟨cs, g2, g4, g5, g6⟩ := hF
  have h2 := ownsRow_below g2 hb1
  have h4 := g4.below hb1
  have hB1 := (hB.below hb1).mono hb1.size
  have hsz := hb1.size
  obtain ⟨ov', w', hrun, hO, hg, hfr⟩ := run_append_own2 (w.alloc (.cells #[.string f.name, sv, .int .i64 (f.safe : Int)] 67)) n₀ 29 ty 67 i0 _ 3 48 Tryz.underlying29 hi hz0 hz1 hz2 rfl (by decide) ov fs.length (fcells fs cs) h2
    ⟨w.heap.size, 0, none⟩ 1 1 [.string f.name, sv, .int .i64 (f.safe : Int)] rfl (by
      intro j u hj
      rw [Addr.add_lit, cells_of_block (heap_alloc_new w _), Nat.zero_add, ← Array.getElem?_toList]
      exact hj) (by
      intro u hu
      simp only [List.mem_cons, List.not_mem_nil, or_false] at hu
      rcases hu with rfl | rfl | rfl
      · rfl
      · exact hB.one
      · rfl) (by unfold maxLen; omega) (by omega) (Nat.le_trans hn₀ hsz)
  refine ⟨ov', w', hrun, ⟨cs ++ [sv], ?_, ?_, g5, Nat.le_trans g6 (Nat.le_trans hsz hg.size)⟩, ?_⟩
  · rw [List.length_append, fcells_append f sv fs cs (by rw [g4.1, List.length_map])]
    exact hO
  · rw [List.map_append]
    refine (h4.grown hg (fun k e => e) hfr).snoc ((hB1.grown2 hg (fun hne k hk' e => (hk hne k hk').2 e)).mono hg.size) ?_
    intro hne k hk'
    obtain ⟨q2, q3⟩ := hk hne k hk'
    refine ⟨Nat.zero_le _, Nat.lt_of_lt_of_le q2 (Nat.le_trans hsz hg.size), fun hor => ?_⟩
    rcases hfr k hor with hx' | hx'
    · exact q3 hx'
    · omega
  · exact (hb1.mono hn₀).trans ((Below.refl n₀ _).grown hg (Nat.le_trans hn₀ hsz) (fun k hk => (World.ownsRow.lt h2 k hk).1))

/-- append of a file behind one's own. -/
theorem wp_push_file [Keep] {w : World} {ops : Array Oper} {rest : List Oper} {o : Oper} {a : Act} {Q : Exit → Act → World → Prop} (hgd : o.guard = none) (s x : Operand)
    (ho : o.op = .call { callee := .builtin .append, args := #[s, x], argTypes := #[29, 29] })
    (n₀ : Nat) (ov : Value) (fs : Files) (f : File) (sv : Value) (hF : Fo n₀ w ov fs) (hn₀ : n₀ ≤ w.heap.size) (hlen : fs.length ≤ 1000000)
    (hB : Bs w.heap.size w sv f.data) (hk : f.data ≠ [] → ∀ k, sv.ownBlock = some k → k < w.heap.size ∧ ¬ ov.ownBlock = some k)
    (hs : a.eval s = ov) (hx : a.eval x = .slice (some ⟨w.heap.size, 0, none⟩) 1 1)
    (h : ∀ ov' w', Fo n₀ w' ov' (fs ++ [f]) → Below n₀ w w' → wpList Tryz.prog ops Q rest (a.put o.dst ov') w') : wpList Tryz.prog ops Q (o :: rest) a (w.alloc (.cells #[.string f.name, sv, .int .i64 (f.safe : Int)] 67)) := by
  obtain ⟨v', w', hrun, r1, r2⟩ := run_push_file w o.type n₀ ov fs f sv hF hn₀ hlen hB hk
  refine wpList_plain hgd fun K hK' => ?_
  unfold Oper.wp
  simp [execOp, ho, resolve, invoke, builtin, hs, hx, hrun, Result.andThen]
  exact hK' _ _ (h v' w' r1 r2)
end Go.Proofs.YtoipjmjhplkibaaGreatDoor

/- The contract of the document's own put: files with one more, or another one, in its place. -/
namespace Go.Proofs.YtoipjmjhplkibaaGreatDoor
open Go.RowKit DiskMath
set_option maxRecDepth 100000
set_option linter.unusedSimpArgs false

theorem less_of {a b : ByteArray} (h : strOrd.lt a b) : Op.bytesLess a.toList b.toList = true := by
  rw [bytesLess_eq]
  exact decide_eq_true h
theorem not_less_of {a b : ByteArray} (h : ¬ strOrd.lt a b) : Op.bytesLess a.toList b.toList = false := by
  rw [bytesLess_eq]
  exact decide_eq_false h
theorem drop_at {fs : Files} {i : Nat} (h : i < fs.length) : fs.drop i = fs[i] :: fs.drop (i + 1) := List.drop_eq_getElem_cons h

theorem putFrom_true (f g : File) (l : Files) : putFrom strOrd f (g :: l) true = (if g.name = f.name then [] else [g]) ++ putFrom strOrd f l true := by
  simp only [putFrom, Bool.true_or]
  simp
theorem putFrom_lt (f g : File) (l : Files) (h : strOrd.lt g.name f.name) : putFrom strOrd f (g :: l) false = [g] ++ putFrom strOrd f l false := by
  have hne : ¬ g.name = f.name := fun e => strOrd.irr f.name (by rw [e] at h; exact h)
  simp only [putFrom, Bool.false_or]
  simp [h, hne]
theorem putFrom_ge (f g : File) (l : Files) (h : ¬ strOrd.lt g.name f.name) : putFrom strOrd f (g :: l) false = [f] ++ ((if g.name = f.name then [] else [g]) ++ putFrom strOrd f l true) := by
  simp only [putFrom, Bool.false_or]
  simp [h]

/-- Bytes of elder memory do not lie in a younger row. -/
theorem apart [Keep] {n₀ n : Nat} {w w' : World} {sv ov : Value} {d : List Nat} {bl : Files} (hB : Bs n w sv d) (hn : n ≤ n₀) (hO : Fo n₀ w' ov bl) (hs : n₀ ≤ w'.heap.size) : d ≠ [] → ∀ k, sv.ownBlock = some k → k < w'.heap.size ∧ ¬ ov.ownBlock = some k := by
  intro hne k hk
  obtain ⟨ao, cap, rfl, _, _, _, e5⟩ := hB
  obtain ⟨b', off', z1, z2, _⟩ := e5 hne
  subst z1
  cases hk
  replace z2 := z2.1
  refine ⟨by show b' < _; omega, fun hor => ?_⟩
  obtain ⟨cs, s1, _⟩ := hO
  have hle : n₀ ≤ b' := (World.ownsRow.lt s1 b' hor).1
  omega

set_option maxHeartbeats 2000000 in
theorem put_of [Keep] (fs : Files) (f : File) (lv sv : Value) (w : World) (hF : Fv w lv fs) (hB : Bs w.heap.size w sv f.data) (hlen : fs.length ≤ 1000) :
    Calls Tryz.prog 91 #[lv, .agg #[.string f.name, sv, .int .i64 (f.safe : Int)]] w fun e w' => ∃ ov, e = .returned ov ∧ Fo (w.heap.size + 1) w' ov (putF fs f) ∧ Below w.heap.size w w' := by
  obtain ⟨hf, ao, cap, rfl, h2⟩ := id hF
  obtain ⟨R, HR⟩ : ∃ R, Hid (R = putF fs f) := ⟨_, rfl⟩
  rw [← HR.out]
  have hbA := (Below.refl w.heap.size w).alloc (Nat.le_refl _) (.cells #[.string f.name, sv, .int .i64 (f.safe : Int)] 67)
  have hszA : (w.alloc (.cells #[.string f.name, sv, .int .i64 (f.safe : Int)] 67)).heap.size = w.heap.size + 1 := by simp
  have hfb := heap_alloc_new w (.cells #[.string f.name, sv, .int .i64 (f.safe : Int)] 67)
  have hF0 := Fo.none (w.alloc (.cells #[.string f.name, sv, .int .i64 (f.safe : Int)] 67)) (Nat.le_trans hf (by simp))
  clear hf
  have hb0 := (Below.refl _ (w.alloc (.cells #[.string f.name, sv, .int .i64 (f.safe : Int)] 67))).alloc (Nat.le_refl _) (.cells #[] 67)
  rw [hszA] at hF0 hb0
  obtain ⟨asv, csv, rfl, -⟩ := id hB
  go_enter Tryz.func91, Tryz.ntmps91
  go_wp2
  generalize w.alloc (.cells #[.string f.name, .slice asv f.data.length csv, .int .i64 (f.safe : Int)] 67) = wA at *
  go_loopg [5, 6, 7] fs.length (fun g s5 s6 s7 wr => ∃ (i : Nat) (dn : Bool) (bl : Files), i + g = fs.length ∧ bl.length ≤ 2 * i ∧ s7 = .int .i64 (i : Int) ∧ s6 = .bool dn ∧ Fo (w.heap.size + 1) wr s5 bl ∧ Below (w.heap.size + 1) wA wr ∧ Hid (R = bl ++ putFrom strOrd f (fs.drop i) dn))
  case atStart => exact ⟨0, false, [], by simp, by simp, rfl, rfl, hF0, hb0, by show _ = _; rw [HR.out]; rfl⟩
  case round =>
    clear hF0 hb0 HR
    obtain ⟨i, dn, bl, hi, hbl, rfl, rfl, hO, hbel, E⟩ := hrel
    obtain ⟨ai, ci, rfl⟩ := hO.shape
    have hfk := (hbel.block w.heap.size (Nat.lt_succ_self _)).trans hfb
    have f0 : wr.cell? ⟨w.heap.size, 0, none⟩ = some (.string f.name) := by rw [cells_of_block hfk]; rfl
    have f1 : wr.cell? ⟨w.heap.size, 1, none⟩ = some (.slice asv f.data.length csv) := by rw [cells_of_block hfk]; rfl
    have f2 : wr.cell? ⟨w.heap.size, 2, none⟩ = some (.int .i64 (f.safe : Int)) := by rw [cells_of_block hfk]; rfl
    have hbw : Below w.heap.size w wr := hbA.trans (hbel.mono (Nat.le_succ _))
    by_cases hlt : i < fs.length
    · have hlti : (i : Int) < (fs.length : Int) := by omega
      have hx : fs[i]? = some fs[i] := List.getElem?_eq_getElem hlt
      obtain ⟨b, off, sg, rfl, c0, c1, c2, hBg, -⟩ := h2 i fs[i] hx
      rw [drop_at hlt] at E
      generalize fs[i] = g at *
      obtain ⟨asg, csg, rfl, -⟩ := id hBg
      have hst : ∀ wq, Below (w.heap.size + 1) wr wq → wq.cell? ⟨w.heap.size, 0, none⟩ = some (.string f.name) ∧ wq.cell? ⟨w.heap.size, 1, none⟩ = some (.slice asv f.data.length csv) ∧ wq.cell? ⟨w.heap.size, 2, none⟩ = some (.int .i64 (f.safe : Int)) ∧ wq.cell? ⟨b, off + i * 3, none⟩ = some (.string g.name) ∧ wq.cell? ⟨b, off + i * 3 + 1, none⟩ = some (.slice asg g.data.length csg) ∧ wq.cell? ⟨b, off + i * 3 + 2, none⟩ = some (.int .i64 (g.safe : Int)) ∧ Bs wq.heap.size wq (.slice asv f.data.length csv) f.data ∧ Bs wq.heap.size wq (.slice asg g.data.length csg) g.data ∧ w.heap.size + 1 ≤ wq.heap.size := fun wq hb => by
        have hbq : Below w.heap.size w wq := hbw.trans (hb.mono (Nat.le_succ _))
        have hfq := (hb.block w.heap.size (Nat.lt_succ_self _)).trans hfk
        refine ⟨by rw [cells_of_block hfq]; rfl, by rw [cells_of_block hfq]; rfl, by rw [cells_of_block hfq]; rfl, (hbq.cell (p := ⟨b, off + i * 3, none⟩) (World.block_lt_of_cell? w _ c0)).trans c0, (hbq.cell (p := ⟨b, off + i * 3 + 1, none⟩) (World.block_lt_of_cell? w _ c1)).trans c1, (hbq.cell (p := ⟨b, off + i * 3 + 2, none⟩) (World.block_lt_of_cell? w _ c2)).trans c2, (hB.below hbq).mono hbq.size, (hBg.below hbq).mono hbq.size, ?_⟩
        have := hb.size
        have := hbel.size
        omega
      have hbr : ∀ k, Below (w.heap.size + 1) wr (wr.drewN k) := fun k => below_drewN (Below.refl _ _) k
      have hbl1 : bl.length ≤ 1000000 := by omega
      have hn1 : w.heap.size ≤ w.heap.size + 1 := Nat.le_succ _
      obtain ⟨f0, f1, f2, c0', c1', c2', -⟩ := hst wr (Below.refl _ _)
      clear hx c0 c1 c2 h2 hF hfk
      cases dn with
      | true =>
        by_cases hnm : g.name = f.name
        · have hne : (g.name.toList == f.name.toList) = true := by rw [hnm]; simp
          go_wp2
          go_big_quiet (fail)
          have hb1 := hbr nq
          have hO1 : Fo (w.heap.size + 1) (wr.drewN nq) _ bl := hO.below (below_drewN (Below.refl _ _) nq)
          generalize wr.drewN nq = w1 at *
          obtain ⟨f0, f1, f2, c0', c1', c2', hBf1, hBg1, hs1⟩ := hst w1 hb1
          clear hO
          go_wp2
          go_quiet (fail)
          have hb3 := hb1.trans (below_drewN (Below.refl (w.heap.size + 1) w1) nq)
          have hO3 : Fo (w.heap.size + 1) (w1.drewN nq) _ bl := hO1.below (below_drewN (Below.refl _ _) nq)
          generalize w1.drewN nq = w3 at *
          clear f0 f1 f2 c0' c1' c2' hBf1 hBg1
          obtain ⟨f0, f1, f2, c0', c1', c2', hBf1, hBg1, hs3⟩ := hst w3 hb3
          go_wp2
          go_roundg (gk - 1)
          case measure => omega
          case rel => exact ⟨i + 1, true, _, by omega, by first | omega | (simp; omega), by go_num, rfl, hO3, hbel.trans hb3, by show _ = _; rw [E.out, putFrom_true]; simp [hnm]⟩
        · have hne := toList_ne hnm
          go_wp2
          go_big_quiet (fail)
          have hb1 := hbr nq
          have hO1 : Fo (w.heap.size + 1) (wr.drewN nq) _ bl := hO.below (below_drewN (Below.refl _ _) nq)
          generalize wr.drewN nq = w1 at *
          obtain ⟨f0, f1, f2, c0', c1', c2', hBf1, hBg1, hs1⟩ := hst w1 hb1
          clear hO
          go_wp2
          go_quiet (fail)
          have hb3 := hb1.trans (below_drewN (Below.refl (w.heap.size + 1) w1) nq)
          have hO3 : Fo (w.heap.size + 1) (w1.drewN nq) _ bl := hO1.below (below_drewN (Below.refl _ _) nq)
          generalize w1.drewN nq = w3 at *
          clear f0 f1 f2 c0' c1' c2' hBf1 hBg1
          obtain ⟨f0, f1, f2, c0', c1', c2', hBf1, hBg1, hs3⟩ := hst w3 hb3
          have hkg := apart hBg hn1 hO3 hs3
          have hbl2 : (bl).length ≤ 1000000 := by first | omega | (simp; omega)
          go_wp2_with (at_builtin; refine wp_push_file rfl _ _ rfl (w.heap.size + 1) _ (bl) g _ hO3 hs3 hbl2 hBg1 hkg rfl rfl ?_)
          intro ov8 w8 hO8 hb8
          go_wp2
          go_roundg (gk - 1)
          case measure => omega
          case rel => exact ⟨i + 1, true, _, by omega, by first | omega | (simp; omega), by go_num, rfl, hO8, hbel.trans (hb3.trans hb8), by show _ = _; rw [E.out, putFrom_true]; simp [hnm]⟩
      | false =>
        by_cases hl : strOrd.lt g.name f.name
        · have hls := less_of hl
          have hne := toList_ne (fun e : g.name = f.name => strOrd.irr f.name (by rw [e] at hl; exact hl))
          go_wp2
          go_region_held3 (fun w' => w'.cell? ⟨b, off + i * 3, none⟩ = some (.string g.name) ∧ w'.cell? ⟨w.heap.size, 0, none⟩ = some (.string f.name)) (exact ⟨c0', f0⟩) (fail)
          have hb1 : Below (w.heap.size + 1) wr wr.drew := (Below.refl _ _).drew
          have hO1 : Fo (w.heap.size + 1) wr.drew _ bl := hO.below (Below.refl _ _).drew
          generalize wr.drew = w1 at *
          obtain ⟨f0, f1, f2, c0', c1', c2', hBf1, hBg1, hs1⟩ := hst w1 hb1
          clear hO
          go_wp2
          go_quiet (fail)
          have hb3 := hb1.trans (below_drewN (Below.refl (w.heap.size + 1) w1) nq)
          have hO3 : Fo (w.heap.size + 1) (w1.drewN nq) _ bl := hO1.below (below_drewN (Below.refl _ _) nq)
          generalize w1.drewN nq = w3 at *
          clear f0 f1 f2 c0' c1' c2' hBf1 hBg1
          obtain ⟨f0, f1, f2, c0', c1', c2', hBf1, hBg1, hs3⟩ := hst w3 hb3
          have hkg := apart hBg hn1 hO3 hs3
          have hbl2 : (bl).length ≤ 1000000 := by first | omega | (simp; omega)
          go_wp2_with (at_builtin; refine wp_push_file rfl _ _ rfl (w.heap.size + 1) _ (bl) g _ hO3 hs3 hbl2 hBg1 hkg rfl rfl ?_)
          intro ov8 w8 hO8 hb8
          go_wp2
          go_roundg (gk - 1)
          case measure => omega
          case rel => exact ⟨i + 1, false, _, by omega, by first | omega | (simp; omega), by go_num, rfl, hO8, hbel.trans (hb3.trans hb8), by show _ = _; rw [E.out, putFrom_lt f g _ hl]; simp⟩
        · have hls := not_less_of hl
          by_cases hnm : g.name = f.name
          · have hne : (g.name.toList == f.name.toList) = true := by rw [hnm]; simp
            have hnmH : Hid (g.name = f.name) := hnm
            clear hnm
            go_wp2
            go_region_held3 (fun w' => w'.cell? ⟨b, off + i * 3, none⟩ = some (.string g.name) ∧ w'.cell? ⟨w.heap.size, 0, none⟩ = some (.string f.name)) (exact ⟨c0', f0⟩) (fail)
            have hb1 : Below (w.heap.size + 1) wr wr.drew := (Below.refl _ _).drew
            have hO1 : Fo (w.heap.size + 1) wr.drew _ bl := hO.below (Below.refl _ _).drew
            generalize wr.drew = w1 at *
            obtain ⟨f0, f1, f2, c0', c1', c2', hBf1, hBg1, hs1⟩ := hst w1 hb1
            clear hO
            have hkf := apart hB hn1 hO1 hs1
            go_wp2_with (at_builtin; refine wp_push_file rfl _ _ rfl (w.heap.size + 1) _ bl f _ hO1 hs1 hbl1 hBf1 hkf rfl rfl ?_)
            intro ov2 w2 hO2 hb2
            clear hO1 hkf hBf1 hBg1 f0 f1 f2 c0' c1' c2'
            obtain ⟨ai2, ci2, rfl⟩ := hO2.shape
            have hb12 := hb1.trans hb2
            obtain ⟨f0, f1, f2, c0', c1', c2', hBf1, hBg1, hs2⟩ := hst w2 hb12
            go_wp2
            go_quiet (fail)
            have hb3 := hb12.trans (below_drewN (Below.refl (w.heap.size + 1) w2) nq)
            have hO3 : Fo (w.heap.size + 1) (w2.drewN nq) _ (bl ++ [f]) := hO2.below (below_drewN (Below.refl _ _) nq)
            generalize w2.drewN nq = w3 at *
            clear f0 f1 f2 c0' c1' c2' hBf1 hBg1
            obtain ⟨f0, f1, f2, c0', c1', c2', hBf1, hBg1, hs3⟩ := hst w3 hb3
            go_wp2
            go_roundg (gk - 1)
            case measure => omega
            case rel => exact ⟨i + 1, true, _, by omega, by first | omega | (simp; omega), by go_num, rfl, hO3, hbel.trans hb3, by show _ = _; rw [E.out, putFrom_ge f g _ hl]; simp [hnmH.out]⟩
          · have hne := toList_ne hnm
            go_wp2
            go_region_held3 (fun w' => w'.cell? ⟨b, off + i * 3, none⟩ = some (.string g.name) ∧ w'.cell? ⟨w.heap.size, 0, none⟩ = some (.string f.name)) (exact ⟨c0', f0⟩) (fail)
            have hb1 : Below (w.heap.size + 1) wr wr.drew := (Below.refl _ _).drew
            have hO1 : Fo (w.heap.size + 1) wr.drew _ bl := hO.below (Below.refl _ _).drew
            generalize wr.drew = w1 at *
            obtain ⟨f0, f1, f2, c0', c1', c2', hBf1, hBg1, hs1⟩ := hst w1 hb1
            clear hO
            have hkf := apart hB hn1 hO1 hs1
            go_wp2_with (at_builtin; refine wp_push_file rfl _ _ rfl (w.heap.size + 1) _ bl f _ hO1 hs1 hbl1 hBf1 hkf rfl rfl ?_)
            intro ov2 w2 hO2 hb2
            clear hO1 hkf hBf1 hBg1 f0 f1 f2 c0' c1' c2'
            obtain ⟨ai2, ci2, rfl⟩ := hO2.shape
            have hb12 := hb1.trans hb2
            obtain ⟨f0, f1, f2, c0', c1', c2', hBf1, hBg1, hs2⟩ := hst w2 hb12
            go_wp2
            go_quiet (fail)
            have hb3 := hb12.trans (below_drewN (Below.refl (w.heap.size + 1) w2) nq)
            have hO3 : Fo (w.heap.size + 1) (w2.drewN nq) _ (bl ++ [f]) := hO2.below (below_drewN (Below.refl _ _) nq)
            generalize w2.drewN nq = w3 at *
            clear f0 f1 f2 c0' c1' c2' hBf1 hBg1
            obtain ⟨f0, f1, f2, c0', c1', c2', hBf1, hBg1, hs3⟩ := hst w3 hb3
            have hkg := apart hBg hn1 hO3 hs3
            have hbl2 : (bl ++ [f]).length ≤ 1000000 := by first | omega | (simp; omega)
            go_wp2_with (at_builtin; refine wp_push_file rfl _ _ rfl (w.heap.size + 1) _ (bl ++ [f]) g _ hO3 hs3 hbl2 hBg1 hkg rfl rfl ?_)
            intro ov8 w8 hO8 hb8
            go_wp2
            go_roundg (gk - 1)
            case measure => omega
            case rel => exact ⟨i + 1, true, _, by omega, by first | omega | (simp; omega), by go_num, rfl, hO8, hbel.trans (hb3.trans hb8), by show _ = _; rw [E.out, putFrom_ge f g _ hl]; simp [hnm]⟩
    · have hlti : ¬ (i : Int) < (fs.length : Int) := by omega
      rw [List.drop_eq_nil_of_le (by omega)] at E
      have hs1 : w.heap.size + 1 ≤ wr.heap.size := by
        have := hbel.size
        omega
      cases dn with
      | true =>
        have E' : Hid (R = bl) := by show _ = _; rw [E.out]; simp [putFrom]
        go_wp2
        go_ret
        rw [E'.out]
        exact ⟨_, rfl, hO, hbw⟩
      | false =>
        have E' : Hid (R = bl ++ [f]) := by show _ = _; rw [E.out]; simp [putFrom]
        have hkf := apart hB (Nat.le_succ _) hO hs1
        have hBf1 := (hB.below hbw).mono hbw.size
        have hbl1 : bl.length ≤ 1000000 := by omega
        go_wp2_with (at_builtin; refine wp_push_file rfl _ _ rfl (w.heap.size + 1) _ bl f _ hO hs1 hbl1 hBf1 hkf rfl rfl ?_)
        intro ov2 w2 hO2 hb2
        go_wp2
        go_ret
        rw [E'.out]
        exact ⟨_, rfl, hO2, hbw.trans (hb2.mono (Nat.le_succ _))⟩
end Go.Proofs.YtoipjmjhplkibaaGreatDoor

