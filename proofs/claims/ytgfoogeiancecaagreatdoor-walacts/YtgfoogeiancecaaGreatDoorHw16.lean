import Derived.Test.YtgfoogeiancecaaGreatDoorHw15
import Derived.Sort.Walk0
import Derived.BigQuiet
import Derived.Laws.Cover1
/- Files in a row of one's own; the contracts of the document's own Read, put and out. -/
namespace Go.Proofs.YtgfoogeiancecaaGreatDoor
open Go.RowKit DiskMath
set_option maxRecDepth 100000
set_option linter.unusedSimpArgs false

theorem infoFile : (Tryz.prog.info? 71).map (fun i => (i.zero, i.size, i.bytes)) = some (some (.agg #[.string ByteArray.empty, .slice none 0 0, .int .i64 0]), 3, 48) := by kernel_rfl

/-- Files as cells. -/
def fcells : Files → List Value → List Value
  | f :: fs, sv :: cs => .string f.name :: sv :: .int .i64 (f.safe : Int) :: fcells fs cs
  | _, _ => []
theorem fcells_append (y : File) (u : Value) : ∀ (fs : Files) (cs : List Value), cs.length = fs.length → fcells (fs ++ [y]) (cs ++ [u]) = fcells fs cs ++ [.string y.name, u, .int .i64 (y.safe : Int)]
  | [], [], _ => rfl
  | x :: fs, sv :: cs, h => by
    simp only [List.cons_append, fcells]
    rw [fcells_append y u fs cs (by simpa using h)]
  | [], _ :: _, h => by simp at h
  | _ :: _, [], h => by simp at h
theorem fcells_get : ∀ (fs : Files) (cs : List Value) (i : Nat) (x : File) (sv : Value), fs[i]? = some x → cs[i]? = some sv → (fcells fs cs)[3 * i]? = some (.string x.name) ∧ (fcells fs cs)[3 * i + 1]? = some sv ∧ (fcells fs cs)[3 * i + 2]? = some (.int .i64 (x.safe : Int))
  | [], _, i, x, sv, h, _ => by simp at h
  | _ :: _, [], i, x, sv, _, h => by simp at h
  | y :: fs, u :: cs, 0, x, sv, h, h' => by
    simp only [List.getElem?_cons_zero, Option.some.injEq] at h h'
    subst h h'
    exact ⟨rfl, rfl, rfl⟩
  | y :: fs, u :: cs, i + 1, x, sv, h, h' => by
    obtain ⟨h1, h2, h3⟩ := fcells_get fs cs i x sv (by simpa using h) (by simpa using h')
    refine ⟨?_, ?_, ?_⟩
    · rw [show 3 * (i + 1) = 3 * i + 1 + 1 + 1 by omega]
      simpa [fcells] using h1
    · rw [show 3 * (i + 1) + 1 = 3 * i + 1 + 1 + 1 + 1 by omega]
      simpa [fcells] using h2
    · rw [show 3 * (i + 1) + 2 = 3 * i + 2 + 1 + 1 + 1 by omega]
      simpa [fcells] using h3

/-- Files at ov, their row in memory from block n₀ on. -/
def Fo [Keep] (n₀ : Nat) (w : World) (ov : Value) (fs : Files) : Prop :=
  ∃ cs, w.ownsRow n₀ 71 3 ov fs.length (fcells fs cs) ∧ Els 0 w (fun k => ov.ownBlock = some k) cs (fs.map Fl.data) ∧ kBase ≤ n₀ ∧ n₀ ≤ w.heap.size

theorem Fo.below [Keep] {n₀ : Nat} {w w' : World} {ov : Value} {fs : Files} (h : Fo n₀ w ov fs) (hb : Below w.heap.size w w') : Fo n₀ w' ov fs := by
  obtain ⟨cs, h1, h2, h3, h4⟩ := h
  exact ⟨cs, ownsRow_below h1 hb, h2.below hb, h3, Nat.le_trans h4 hb.size⟩
theorem Fo.shape [Keep] {n₀ : Nat} {w : World} {ov : Value} {fs : Files} (h : Fo n₀ w ov fs) : ∃ ao cap, ov = .slice ao fs.length cap := by
  obtain ⟨cs, ⟨_, ⟨r1, r2⟩ | ⟨g, cp, _, r1, _⟩⟩, _⟩ := h
  · exact ⟨none, 0, by rw [r1, r2]⟩
  · exact ⟨_, _, r1⟩
theorem Fo.none [Keep] (w : World) (hf : kBase ≤ w.heap.size) : Fo w.heap.size (w.alloc (.cells #[] 71)) (.slice (some ⟨w.heap.size, 0, none⟩) 0 0) [] :=
  ⟨[], World.ownsRow_made w #[] 0 (Nat.le_refl _) (Nat.zero_le _) rfl, Els.nil _ _ _, hf, by simp⟩
theorem Fo.fv [Keep] {n₀ : Nat} {w : World} {ov : Value} {fs : Files} (h : Fo n₀ w ov fs) : Fv w ov fs := by
  obtain ⟨ao, cap, e⟩ := h.shape
  obtain ⟨cs, h2, h4, h5, h6⟩ := h
  refine ⟨Nat.le_trans h5 h6, ao, cap, e, fun i x hx => ?_⟩
  have hi : i < fs.length := (List.getElem?_eq_some_iff.1 hx).1
  obtain ⟨g, cp, e2, _, hc⟩ := row_cell h2 (by omega)
  have hil : i < cs.length := by rw [h4.1, List.length_map]; exact hi
  have hsv := List.getElem?_eq_getElem hil
  obtain ⟨c1, c2, c3⟩ := fcells_get fs cs i x _ hx hsv
  rw [e] at e2
  simp only [Value.slice.injEq] at e2
  rw [Nat.mul_comm] at c1 c2 c3
  exact ⟨g, 0, cs[i], e2.1, hc _ _ c1, by rw [Nat.add_assoc]; exact hc _ _ c2, by rw [Nat.add_assoc]; exact hc _ _ c3, (h4.2 i _ x.data hsv (by simp [hx])).1, kNew g (Nat.le_trans h5 (World.ownsRow.lt h2 g (by rw [e, e2.1]; rfl)).1)⟩

/-- A file as a value. -/
def fval (f : File) (sv : Value) : Value := .agg #[.string f.name, sv, .int .i64 (f.safe : Int)]

set_option maxHeartbeats 1000000 in
theorem run_push_file [Keep] (w : World) (ty : TypeId) (n₀ : Nat) (ov : Value) (fs : Files) (f : File) (sv : Value) (hF : Fo n₀ w ov fs) (hn₀ : n₀ ≤ w.heap.size) (hlen : fs.length ≤ 1000000)
    (hB : Bs w.heap.size w sv f.data) (hk : f.data ≠ [] → ∀ k, sv.ownBlock = some k → k < w.heap.size ∧ ¬ ov.ownBlock = some k) :
    ∃ ov' w', (Builtin.append_ #[29, 29] ty #[ov, .slice (some ⟨w.heap.size, 0, none⟩) 1 1]).run Tryz.prog (w.alloc (.cells #[.string f.name, sv, .int .i64 (f.safe : Int)] 71)) = .ok ov' w' ∧ Fo n₀ w' ov' (fs ++ [f]) ∧ Below n₀ w w' := by
  obtain ⟨i0, hi, hz0, hz1, hz2⟩ := info_parts infoFile
  have hb1 := (Below.refl w.heap.size w).alloc (Nat.le_refl _) (.cells #[.string f.name, sv, .int .i64 (f.safe : Int)] 71)
  obtain ⟨cs, g2, g4, g5, g6⟩ := hF
  have h2 := ownsRow_below g2 hb1
  have h4 := g4.below hb1
  have hB1 := (hB.below hb1).mono hb1.size
  have hsz := hb1.size
  obtain ⟨ov', w', hrun, hO, hg, hfr⟩ := run_append_own2 (w.alloc (.cells #[.string f.name, sv, .int .i64 (f.safe : Int)] 71)) n₀ 29 ty 71 i0 _ 3 48 Tryz.underlying29 hi hz0 hz1 hz2 rfl (by decide) ov fs.length (fcells fs cs) h2
    ⟨w.heap.size, 0, none⟩ 1 1 [.string f.name, sv, .int .i64 (f.safe : Int)] rfl (by
      intro j u hj
      rw [Addr.add_lit, cells_of_block (heap_alloc_new w _), Nat.zero_add, ← Array.getElem?_toList]
      exact hj) (by
      intro u hu
      simp only [List.mem_cons, List.not_mem_nil, or_false] at hu
      rcases hu with rfl | rfl | rfl
      · rfl
      · exact hB.one
      · rfl) (by unfold maxLen; omega) (by omega) (Nat.le_trans hn₀ hsz)
  refine ⟨ov', w', hrun, ⟨cs ++ [sv], ?_, ?_, g5, Nat.le_trans g6 (Nat.le_trans hsz hg.size)⟩, ?_⟩
  · rw [List.length_append, fcells_append f sv fs cs (by rw [g4.1, List.length_map])]
    exact hO
  · rw [List.map_append]
    refine (h4.grown hg (fun k e => e) hfr).snoc ((hB1.grown2 hg (fun hne k hk' e => (hk hne k hk').2 e)).mono hg.size) ?_
    intro hne k hk'
    obtain ⟨q2, q3⟩ := hk hne k hk'
    refine ⟨Nat.zero_le _, Nat.lt_of_lt_of_le q2 (Nat.le_trans hsz hg.size), fun hor => ?_⟩
    rcases hfr k hor with hx' | hx'
    · exact q3 hx'
    · omega
  · exact (hb1.mono hn₀).trans ((Below.refl n₀ _).grown hg (Nat.le_trans hn₀ hsz) (fun k hk => (World.ownsRow.lt h2 k hk).1))

/-- append of a file behind one's own. -/
theorem wp_push_file [Keep] {w : World} {ops : Array Oper} {rest : List Oper} {o : Oper} {a : Act} {Q : Exit → Act → World → Prop} (hgd : o.guard = none) (s x : Operand)
    (ho : o.op = .call { callee := .builtin .append, args := #[s, x], argTypes := #[29, 29] })
    (n₀ : Nat) (ov : Value) (fs : Files) (f : File) (sv : Value) (hF : Fo n₀ w ov fs) (hn₀ : n₀ ≤ w.heap.size) (hlen : fs.length ≤ 1000000)
    (hB : Bs w.heap.size w sv f.data) (hk : f.data ≠ [] → ∀ k, sv.ownBlock = some k → k < w.heap.size ∧ ¬ ov.ownBlock = some k)
    (hs : a.eval s = ov) (hx : a.eval x = .slice (some ⟨w.heap.size, 0, none⟩) 1 1)
    (h : ∀ ov' w', Fo n₀ w' ov' (fs ++ [f]) → Below n₀ w w' → wpList Tryz.prog ops Q rest (a.put o.dst ov') w') : wpList Tryz.prog ops Q (o :: rest) a (w.alloc (.cells #[.string f.name, sv, .int .i64 (f.safe : Int)] 71)) := by
  obtain ⟨v', w', hrun, r1, r2⟩ := run_push_file w o.type n₀ ov fs f sv hF hn₀ hlen hB hk
  refine wpList_plain hgd fun K hK' => ?_
  unfold Oper.wp
  simp [execOp, ho, resolve, invoke, builtin, hs, hx, hrun, Result.andThen]
  exact hK' _ _ (h v' w' r1 r2)
end Go.Proofs.YtgfoogeiancecaaGreatDoor

/- The contract of the document's own put: files with one more, or another one, in its place. -/
namespace Go.Proofs.YtgfoogeiancecaaGreatDoor
open Go.RowKit DiskMath
set_option maxRecDepth 100000
set_option linter.unusedSimpArgs false

theorem less_of {a b : ByteArray} (h : strOrd.lt a b) : Op.bytesLess a.toList b.toList = true := by
  rw [bytesLess_eq]
  exact decide_eq_true h
theorem not_less_of {a b : ByteArray} (h : ¬ strOrd.lt a b) : Op.bytesLess a.toList b.toList = false := by
  rw [bytesLess_eq]
  exact decide_eq_false h
theorem drop_at {fs : Files} {i : Nat} (h : i < fs.length) : fs.drop i = fs[i] :: fs.drop (i + 1) := List.drop_eq_getElem_cons h

theorem putFrom_true (f g : File) (l : Files) : putFrom strOrd f (g :: l) true = (if g.name = f.name then [] else [g]) ++ putFrom strOrd f l true := by
  simp only [putFrom, Bool.true_or]
  simp
theorem putFrom_lt (f g : File) (l : Files) (h : strOrd.lt g.name f.name) : putFrom strOrd f (g :: l) false = [g] ++ putFrom strOrd f l false := by
  have hne : ¬ g.name = f.name := fun e => strOrd.irr f.name (by rw [e] at h; exact h)
  simp only [putFrom, Bool.false_or]
  simp [h, hne]
theorem putFrom_ge (f g : File) (l : Files) (h : ¬ strOrd.lt g.name f.name) : putFrom strOrd f (g :: l) false = [f] ++ ((if g.name = f.name then [] else [g]) ++ putFrom strOrd f l true) := by
  simp only [putFrom, Bool.false_or]
  simp [h]

/-- Bytes of elder memory do not lie in a younger row. -/
theorem apart [Keep] {n₀ n : Nat} {w w' : World} {sv ov : Value} {d : List Nat} {bl : Files} (hB : Bs n w sv d) (hn : n ≤ n₀) (hO : Fo n₀ w' ov bl) (hs : n₀ ≤ w'.heap.size) : d ≠ [] → ∀ k, sv.ownBlock = some k → k < w'.heap.size ∧ ¬ ov.ownBlock = some k := by
  intro hne k hk
  obtain ⟨ao, cap, rfl, _, _, _, e5⟩ := hB
  obtain ⟨b', off', z1, z2, _⟩ := e5 hne
  subst z1
  cases hk
  replace z2 := z2.1
  refine ⟨by show b' < _; omega, fun hor => ?_⟩
  obtain ⟨cs, s1, _⟩ := hO
  have hle : n₀ ≤ b' := (World.ownsRow.lt s1 b' hor).1
  omega

set_option maxHeartbeats 2000000 in
theorem put_of [Keep] (fs : Files) (f : File) (lv sv : Value) (w : World) (hF : Fv w lv fs) (hB : Bs w.heap.size w sv f.data) (hlen : fs.length ≤ 1000) :
    Calls Tryz.prog 65 #[lv, .agg #[.string f.name, sv, .int .i64 (f.safe : Int)]] w fun e w' => ∃ ov, e = .returned ov ∧ Fo (w.heap.size + 1) w' ov (putF fs f) ∧ Below w.heap.size w w' := by
  obtain ⟨hf, ao, cap, rfl, h2⟩ := id hF
  obtain ⟨R, HR⟩ : ∃ R, Hid (R = putF fs f) := ⟨_, rfl⟩
  rw [← HR.out]
  have hbA := (Below.refl w.heap.size w).alloc (Nat.le_refl _) (.cells #[.string f.name, sv, .int .i64 (f.safe : Int)] 71)
  have hszA : (w.alloc (.cells #[.string f.name, sv, .int .i64 (f.safe : Int)] 71)).heap.size = w.heap.size + 1 := by simp
  have hfb := heap_alloc_new w (.cells #[.string f.name, sv, .int .i64 (f.safe : Int)] 71)
  have hF0 := Fo.none (w.alloc (.cells #[.string f.name, sv, .int .i64 (f.safe : Int)] 71)) (Nat.le_trans hf (by simp))
  clear hf
  have hb0 := (Below.refl _ (w.alloc (.cells #[.string f.name, sv, .int .i64 (f.safe : Int)] 71))).alloc (Nat.le_refl _) (.cells #[] 71)
  rw [hszA] at hF0 hb0
  obtain ⟨asv, csv, rfl, -⟩ := id hB
  go_enter Tryz.func65, Tryz.ntmps65
  go_wp2
  generalize w.alloc (.cells #[.string f.name, .slice asv f.data.length csv, .int .i64 (f.safe : Int)] 71) = wA at *
  go_loopg [5, 6, 7] fs.length (fun g s5 s6 s7 wr => ∃ (i : Nat) (dn : Bool) (bl : Files), i + g = fs.length ∧ bl.length ≤ 2 * i ∧ s7 = .int .i64 (i : Int) ∧ s6 = .bool dn ∧ Fo (w.heap.size + 1) wr s5 bl ∧ Below (w.heap.size + 1) wA wr ∧ Hid (R = bl ++ putFrom strOrd f (fs.drop i) dn))
  case atStart => exact ⟨0, false, [], by simp, by simp, rfl, rfl, hF0, hb0, by show _ = _; rw [HR.out]; rfl⟩
  case round =>
    clear hF0 hb0 HR
    obtain ⟨i, dn, bl, hi, hbl, rfl, rfl, hO, hbel, E⟩ := hrel
    obtain ⟨ai, ci, rfl⟩ := hO.shape
    have hfk := (hbel.block w.heap.size (Nat.lt_succ_self _)).trans hfb
    have f0 : wr.cell? ⟨w.heap.size, 0, none⟩ = some (.string f.name) := by rw [cells_of_block hfk]; rfl
    have f1 : wr.cell? ⟨w.heap.size, 1, none⟩ = some (.slice asv f.data.length csv) := by rw [cells_of_block hfk]; rfl
    have f2 : wr.cell? ⟨w.heap.size, 2, none⟩ = some (.int .i64 (f.safe : Int)) := by rw [cells_of_block hfk]; rfl
    have hbw : Below w.heap.size w wr := hbA.trans (hbel.mono (Nat.le_succ _))
    by_cases hlt : i < fs.length
    · have hlti : (i : Int) < (fs.length : Int) := by omega
      have hx : fs[i]? = some fs[i] := List.getElem?_eq_getElem hlt
      obtain ⟨b, off, sg, rfl, c0, c1, c2, hBg, -⟩ := h2 i fs[i] hx
      rw [drop_at hlt] at E
      generalize fs[i] = g at *
      obtain ⟨asg, csg, rfl, -⟩ := id hBg
      have hst : ∀ wq, Below (w.heap.size + 1) wr wq → wq.cell? ⟨w.heap.size, 0, none⟩ = some (.string f.name) ∧ wq.cell? ⟨w.heap.size, 1, none⟩ = some (.slice asv f.data.length csv) ∧ wq.cell? ⟨w.heap.size, 2, none⟩ = some (.int .i64 (f.safe : Int)) ∧ wq.cell? ⟨b, off + i * 3, none⟩ = some (.string g.name) ∧ wq.cell? ⟨b, off + i * 3 + 1, none⟩ = some (.slice asg g.data.length csg) ∧ wq.cell? ⟨b, off + i * 3 + 2, none⟩ = some (.int .i64 (g.safe : Int)) ∧ Bs wq.heap.size wq (.slice asv f.data.length csv) f.data ∧ Bs wq.heap.size wq (.slice asg g.data.length csg) g.data ∧ w.heap.size + 1 ≤ wq.heap.size := fun wq hb => by
        have hbq : Below w.heap.size w wq := hbw.trans (hb.mono (Nat.le_succ _))
        have hfq := (hb.block w.heap.size (Nat.lt_succ_self _)).trans hfk
        refine ⟨by rw [cells_of_block hfq]; rfl, by rw [cells_of_block hfq]; rfl, by rw [cells_of_block hfq]; rfl, (hbq.cell (p := ⟨b, off + i * 3, none⟩) (World.block_lt_of_cell? w _ c0)).trans c0, (hbq.cell (p := ⟨b, off + i * 3 + 1, none⟩) (World.block_lt_of_cell? w _ c1)).trans c1, (hbq.cell (p := ⟨b, off + i * 3 + 2, none⟩) (World.block_lt_of_cell? w _ c2)).trans c2, (hB.below hbq).mono hbq.size, (hBg.below hbq).mono hbq.size, ?_⟩
        have := hb.size
        have := hbel.size
        omega
      have hbr : ∀ k, Below (w.heap.size + 1) wr (wr.drewN k) := fun k => below_drewN (Below.refl _ _) k
      have hbl1 : bl.length ≤ 1000000 := by omega
      have hn1 : w.heap.size ≤ w.heap.size + 1 := Nat.le_succ _
      obtain ⟨f0, f1, f2, c0', c1', c2', -⟩ := hst wr (Below.refl _ _)
      clear hx c0 c1 c2 h2 hF hfk
      cases dn with
      | true =>
        by_cases hnm : g.name = f.name
        · have hne : (g.name.toList == f.name.toList) = true := by rw [hnm]; simp
          go_wp2
          go_big_quiet (fail)
          have hb1 := hbr nq
          have hO1 : Fo (w.heap.size + 1) (wr.drewN nq) _ bl := hO.below (below_drewN (Below.refl _ _) nq)
          generalize wr.drewN nq = w1 at *
          obtain ⟨f0, f1, f2, c0', c1', c2', hBf1, hBg1, hs1⟩ := hst w1 hb1
          clear hO
          go_wp2
          go_quiet (fail)
          have hb3 := hb1.trans (below_drewN (Below.refl (w.heap.size + 1) w1) nq)
          have hO3 : Fo (w.heap.size + 1) (w1.drewN nq) _ bl := hO1.below (below_drewN (Below.refl _ _) nq)
          generalize w1.drewN nq = w3 at *
          clear f0 f1 f2 c0' c1' c2' hBf1 hBg1
          obtain ⟨f0, f1, f2, c0', c1', c2', hBf1, hBg1, hs3⟩ := hst w3 hb3
          go_wp2
          go_roundg (gk - 1)
          case measure => omega
          case rel => exact ⟨i + 1, true, _, by omega, by first | omega | (simp; omega), by go_num, rfl, hO3, hbel.trans hb3, by show _ = _; rw [E.out, putFrom_true]; simp [hnm]⟩
        · have hne := toList_ne hnm
          go_wp2
          go_big_quiet (fail)
          have hb1 := hbr nq
          have hO1 : Fo (w.heap.size + 1) (wr.drewN nq) _ bl := hO.below (below_drewN (Below.refl _ _) nq)
          generalize wr.drewN nq = w1 at *
          obtain ⟨f0, f1, f2, c0', c1', c2', hBf1, hBg1, hs1⟩ := hst w1 hb1
          clear hO
          go_wp2
          go_quiet (fail)
          have hb3 := hb1.trans (below_drewN (Below.refl (w.heap.size + 1) w1) nq)
          have hO3 : Fo (w.heap.size + 1) (w1.drewN nq) _ bl := hO1.below (below_drewN (Below.refl _ _) nq)
          generalize w1.drewN nq = w3 at *
          clear f0 f1 f2 c0' c1' c2' hBf1 hBg1
          obtain ⟨f0, f1, f2, c0', c1', c2', hBf1, hBg1, hs3⟩ := hst w3 hb3
          have hkg := apart hBg hn1 hO3 hs3
          have hbl2 : (bl).length ≤ 1000000 := by first | omega | (simp; omega)
          go_wp2_with (at_builtin; refine wp_push_file rfl _ _ rfl (w.heap.size + 1) _ (bl) g _ hO3 hs3 hbl2 hBg1 hkg rfl rfl ?_)
          intro ov8 w8 hO8 hb8
          go_wp2
          go_roundg (gk - 1)
          case measure => omega
          case rel => exact ⟨i + 1, true, _, by omega, by first | omega | (simp; omega), by go_num, rfl, hO8, hbel.trans (hb3.trans hb8), by show _ = _; rw [E.out, putFrom_true]; simp [hnm]⟩
      | false =>
        by_cases hl : strOrd.lt g.name f.name
        · have hls := less_of hl
          have hne := toList_ne (fun e : g.name = f.name => strOrd.irr f.name (by rw [e] at hl; exact hl))
          go_wp2
          go_region_held3 (fun w' => w'.cell? ⟨b, off + i * 3, none⟩ = some (.string g.name) ∧ w'.cell? ⟨w.heap.size, 0, none⟩ = some (.string f.name)) (exact ⟨c0', f0⟩) (fail)
          have hb1 : Below (w.heap.size + 1) wr wr.drew := (Below.refl _ _).drew
          have hO1 : Fo (w.heap.size + 1) wr.drew _ bl := hO.below (Below.refl _ _).drew
          generalize wr.drew = w1 at *
          obtain ⟨f0, f1, f2, c0', c1', c2', hBf1, hBg1, hs1⟩ := hst w1 hb1
          clear hO
          go_wp2
          go_quiet (fail)
          have hb3 := hb1.trans (below_drewN (Below.refl (w.heap.size + 1) w1) nq)
          have hO3 : Fo (w.heap.size + 1) (w1.drewN nq) _ bl := hO1.below (below_drewN (Below.refl _ _) nq)
          generalize w1.drewN nq = w3 at *
          clear f0 f1 f2 c0' c1' c2' hBf1 hBg1
          obtain ⟨f0, f1, f2, c0', c1', c2', hBf1, hBg1, hs3⟩ := hst w3 hb3
          have hkg := apart hBg hn1 hO3 hs3
          have hbl2 : (bl).length ≤ 1000000 := by first | omega | (simp; omega)
          go_wp2_with (at_builtin; refine wp_push_file rfl _ _ rfl (w.heap.size + 1) _ (bl) g _ hO3 hs3 hbl2 hBg1 hkg rfl rfl ?_)
          intro ov8 w8 hO8 hb8
          go_wp2
          go_roundg (gk - 1)
          case measure => omega
          case rel => exact ⟨i + 1, false, _, by omega, by first | omega | (simp; omega), by go_num, rfl, hO8, hbel.trans (hb3.trans hb8), by show _ = _; rw [E.out, putFrom_lt f g _ hl]; simp⟩
        · have hls := not_less_of hl
          by_cases hnm : g.name = f.name
          · have hne : (g.name.toList == f.name.toList) = true := by rw [hnm]; simp
            have hnmH : Hid (g.name = f.name) := hnm
            clear hnm
            go_wp2
            go_region_held3 (fun w' => w'.cell? ⟨b, off + i * 3, none⟩ = some (.string g.name) ∧ w'.cell? ⟨w.heap.size, 0, none⟩ = some (.string f.name)) (exact ⟨c0', f0⟩) (fail)
            have hb1 : Below (w.heap.size + 1) wr wr.drew := (Below.refl _ _).drew
            have hO1 : Fo (w.heap.size + 1) wr.drew _ bl := hO.below (Below.refl _ _).drew
            generalize wr.drew = w1 at *
            obtain ⟨f0, f1, f2, c0', c1', c2', hBf1, hBg1, hs1⟩ := hst w1 hb1
            clear hO
            have hkf := apart hB hn1 hO1 hs1
            go_wp2_with (at_builtin; refine wp_push_file rfl _ _ rfl (w.heap.size + 1) _ bl f _ hO1 hs1 hbl1 hBf1 hkf rfl rfl ?_)
            intro ov2 w2 hO2 hb2
            clear hO1 hkf hBf1 hBg1 f0 f1 f2 c0' c1' c2'
            obtain ⟨ai2, ci2, rfl⟩ := hO2.shape
            have hb12 := hb1.trans hb2
            obtain ⟨f0, f1, f2, c0', c1', c2', hBf1, hBg1, hs2⟩ := hst w2 hb12
            go_wp2
            go_quiet (fail)
            have hb3 := hb12.trans (below_drewN (Below.refl (w.heap.size + 1) w2) nq)
            have hO3 : Fo (w.heap.size + 1) (w2.drewN nq) _ (bl ++ [f]) := hO2.below (below_drewN (Below.refl _ _) nq)
            generalize w2.drewN nq = w3 at *
            clear f0 f1 f2 c0' c1' c2' hBf1 hBg1
            obtain ⟨f0, f1, f2, c0', c1', c2', hBf1, hBg1, hs3⟩ := hst w3 hb3
            go_wp2
            go_roundg (gk - 1)
            case measure => omega
            case rel => exact ⟨i + 1, true, _, by omega, by first | omega | (simp; omega), by go_num, rfl, hO3, hbel.trans hb3, by show _ = _; rw [E.out, putFrom_ge f g _ hl]; simp [hnmH.out]⟩
          · have hne := toList_ne hnm
            go_wp2
            go_region_held3 (fun w' => w'.cell? ⟨b, off + i * 3, none⟩ = some (.string g.name) ∧ w'.cell? ⟨w.heap.size, 0, none⟩ = some (.string f.name)) (exact ⟨c0', f0⟩) (fail)
            have hb1 : Below (w.heap.size + 1) wr wr.drew := (Below.refl _ _).drew
            have hO1 : Fo (w.heap.size + 1) wr.drew _ bl := hO.below (Below.refl _ _).drew
            generalize wr.drew = w1 at *
            obtain ⟨f0, f1, f2, c0', c1', c2', hBf1, hBg1, hs1⟩ := hst w1 hb1
            clear hO
            have hkf := apart hB hn1 hO1 hs1
            go_wp2_with (at_builtin; refine wp_push_file rfl _ _ rfl (w.heap.size + 1) _ bl f _ hO1 hs1 hbl1 hBf1 hkf rfl rfl ?_)
            intro ov2 w2 hO2 hb2
            clear hO1 hkf hBf1 hBg1 f0 f1 f2 c0' c1' c2'
            obtain ⟨ai2, ci2, rfl⟩ := hO2.shape
            have hb12 := hb1.trans hb2
            obtain ⟨f0, f1, f2, c0', c1', c2', hBf1, hBg1, hs2⟩ := hst w2 hb12
            go_wp2
            go_quiet (fail)
            have hb3 := hb12.trans (below_drewN (Below.refl (w.heap.size + 1) w2) nq)
            have hO3 : Fo (w.heap.size + 1) (w2.drewN nq) _ (bl ++ [f]) := hO2.below (below_drewN (Below.refl _ _) nq)
            generalize w2.drewN nq = w3 at *
            clear f0 f1 f2 c0' c1' c2' hBf1 hBg1
            obtain ⟨f0, f1, f2, c0', c1', c2', hBf1, hBg1, hs3⟩ := hst w3 hb3
            have hkg := apart hBg hn1 hO3 hs3
            have hbl2 : (bl ++ [f]).length ≤ 1000000 := by first | omega | (simp; omega)
            go_wp2_with (at_builtin; refine wp_push_file rfl _ _ rfl (w.heap.size + 1) _ (bl ++ [f]) g _ hO3 hs3 hbl2 hBg1 hkg rfl rfl ?_)
            intro ov8 w8 hO8 hb8
            go_wp2
            go_roundg (gk - 1)
            case measure => omega
            case rel => exact ⟨i + 1, true, _, by omega, by first | omega | (simp; omega), by go_num, rfl, hO8, hbel.trans (hb3.trans hb8), by show _ = _; rw [E.out, putFrom_ge f g _ hl]; simp [hnm]⟩
    · have hlti : ¬ (i : Int) < (fs.length : Int) := by omega
      rw [List.drop_eq_nil_of_le (by omega)] at E
      have hs1 : w.heap.size + 1 ≤ wr.heap.size := by
        have := hbel.size
        omega
      cases dn with
      | true =>
        have E' : Hid (R = bl) := by show _ = _; rw [E.out]; simp [putFrom]
        go_wp2
        go_ret
        rw [E'.out]
        exact ⟨_, rfl, hO, hbw⟩
      | false =>
        have E' : Hid (R = bl ++ [f]) := by show _ = _; rw [E.out]; simp [putFrom]
        have hkf := apart hB (Nat.le_succ _) hO hs1
        have hBf1 := (hB.below hbw).mono hbw.size
        have hbl1 : bl.length ≤ 1000000 := by omega
        go_wp2_with (at_builtin; refine wp_push_file rfl _ _ rfl (w.heap.size + 1) _ bl f _ hO hs1 hbl1 hBf1 hkf rfl rfl ?_)
        intro ov2 w2 hO2 hb2
        go_wp2
        go_ret
        rw [E'.out]
        exact ⟨_, rfl, hO2, hbw.trans (hb2.mono (Nat.le_succ _))⟩
end Go.Proofs.YtgfoogeiancecaaGreatDoor

/- The contracts of the document's own out, Read, Sync, Cut, Rename and Remove. -/
namespace Go.Proofs.YtgfoogeiancecaaGreatDoor
open Go.RowKit DiskMath
set_option maxRecDepth 100000
set_option linter.unusedSimpArgs false

theorem out_cons (f : File) (l : Files) (n : ByteArray) : DiskMath.out (f :: l) n = (if f.name = n then [] else [f]) ++ DiskMath.out l n := by
  unfold DiskMath.out
  by_cases h : f.name = n <;> simp [h]

set_option maxHeartbeats 1000000 in
theorem out_of [Keep] (fs : Files) (n : ByteArray) (lv : Value) (w : World) (hF : Fv w lv fs) (hlen : fs.length ≤ 1000) :
    Calls Tryz.prog 67 #[lv, .string n] w fun e w' => ∃ ov, e = .returned ov ∧ Fo w.heap.size w' ov (DiskMath.out fs n) ∧ Below w.heap.size w w' := by
  obtain ⟨hf, ao, cap, rfl, h2⟩ := id hF
  obtain ⟨R, HR⟩ : ∃ R, Hid (R = DiskMath.out fs n) := ⟨_, rfl⟩
  rw [← HR.out]
  have hF0 := Fo.none w hf
  clear hf
  have hb0 := (Below.refl w.heap.size w).alloc (Nat.le_refl _) (.cells #[] 71)
  go_enter Tryz.func67, Tryz.ntmps67
  go_wp2
  go_loopg [5, 6] fs.length (fun g s5 s6 wr => ∃ (i : Nat) (bl : Files), i + g = fs.length ∧ bl.length ≤ i ∧ s6 = .int .i64 (i : Int) ∧ Fo w.heap.size wr s5 bl ∧ Below w.heap.size w wr ∧ Hid (R = bl ++ DiskMath.out (fs.drop i) n))
  case atStart => exact ⟨0, [], by simp, by simp, rfl, hF0, hb0, by show _ = _; rw [HR.out]; rfl⟩
  case round =>
    clear hF0 hb0 HR
    obtain ⟨i, bl, hi, hbl, rfl, hO, hbel, E⟩ := hrel
    obtain ⟨ai, ci, rfl⟩ := hO.shape
    by_cases hlt : i < fs.length
    · have hlti : (i : Int) < (fs.length : Int) := by omega
      have hx : fs[i]? = some fs[i] := List.getElem?_eq_getElem hlt
      obtain ⟨b, off, sg, rfl, c0, c1, c2, hBg, -⟩ := h2 i fs[i] hx
      rw [drop_at hlt, out_cons] at E
      generalize fs[i] = g at *
      obtain ⟨asg, csg, rfl, -⟩ := id hBg
      have c0' := (hbel.cell (p := ⟨b, off + i * 3, none⟩) (World.block_lt_of_cell? w _ c0)).trans c0
      have c1' := (hbel.cell (p := ⟨b, off + i * 3 + 1, none⟩) (World.block_lt_of_cell? w _ c1)).trans c1
      have c2' := (hbel.cell (p := ⟨b, off + i * 3 + 2, none⟩) (World.block_lt_of_cell? w _ c2)).trans c2
      have hbl1 : bl.length ≤ 1000000 := by omega
      have hs1 := hbel.size
      have hBg1 := (hBg.below hbel).mono hs1
      have hkg := apart hBg (Nat.le_refl _) hO hs1
      clear hx c0 c1 c2 h2 hF
      by_cases hnm : g.name = n
      · have hne : (g.name.toList == n.toList) = true := by rw [hnm]; simp
        rw [if_pos hnm] at E
        go_wp2
        go_roundg (gk - 1)
        case measure => omega
        case rel => exact ⟨i + 1, bl, by omega, by omega, by go_num, hO, hbel, E⟩
      · have hne := toList_ne hnm
        rw [if_neg hnm] at E
        have E' : Hid (R = (bl ++ [g]) ++ DiskMath.out (fs.drop (i + 1)) n) := by show _ = _; rw [E.out]; simp
        go_wp2_with (at_builtin; refine wp_push_file rfl _ _ rfl w.heap.size _ bl g _ hO hs1 hbl1 hBg1 hkg rfl rfl ?_)
        intro ov8 w8 hO8 hb8
        go_wp2
        go_roundg (gk - 1)
        case measure => omega
        case rel => exact ⟨i + 1, bl ++ [g], by omega, by simp; omega, by go_num, hO8, hbel.trans hb8, E'⟩
    · have hlti : ¬ (i : Int) < (fs.length : Int) := by omega
      have E' : Hid (R = bl) := by show _ = _; rw [E.out, List.drop_eq_nil_of_le (by omega)]; simp [DiskMath.out]
      clear h2 hF
      go_wp2
      go_ret
      rw [E'.out]
      exact ⟨_, rfl, hO, hbel⟩

/-- What is told beside the files: the list, and the error. -/
def Told [Keep] (w : World) (R : Files × Nat) (e : Ending) (w' : World) : Prop := ∃ lv, e = .returned (.tuple #[lv, .int .i64 (R.2 : Int)]) ∧ Fv w' lv R.1 ∧ Below w.heap.size w w'

set_option maxHeartbeats 1000000 in
theorem remove_of [Keep] (fs : Files) (n : ByteArray) (lv : Value) (w : World) (hF : Fv w lv fs) (hlen : fs.length ≤ 1000) :
    Calls Tryz.prog 34 #[lv, .string n] w (Told w (dRemove fs n)) := by
  have hp := place_of fs n lv w hF (by omega)
  have ho := out_of fs n lv w hF hlen
  obtain ⟨hf, ao, cap, rfl, h2⟩ := id hF
  obtain ⟨R, HR⟩ : ∃ R, Hid (R = dRemove fs n) := ⟨_, rfl⟩
  rw [← HR.out]
  go_enter Tryz.func34, Tryz.ntmps34
  go_wp2_with fail
  refine hp.mono ?_
  rintro e w1 ⟨hor, hw1⟩
  rw [hw1]
  clear hw1 w1
  rcases hor with ⟨hg, rfl⟩ | ⟨i, f, hx, hg, rfl⟩
  · have E : Hid (R = (fs, 4)) := by show _ = _; rw [HR.out]; unfold dRemove; rw [hg]
    clear hg h2 hp HR ho
    go_wp2
    go_ret2
    rw [E.out]
    exact ⟨_, rfl, hF, Below.refl _ _⟩
  · have E : Hid (R = (DiskMath.out fs n, 0)) := by show _ = _; rw [HR.out]; unfold dRemove; rw [hg]
    have hii : ¬ (i : Int) < 0 := by omega
    clear hg h2 hF hp hx HR
    go_wp2_with fail
    refine ho.mono ?_
    rintro e w2 ⟨ov, rfl, hO, hb⟩
    go_wp2
    go_ret2
    rw [E.out]
    exact ⟨_, rfl, hO.fv, hb⟩
end Go.Proofs.YtgfoogeiancecaaGreatDoor

/- The contracts of the document's own Sync, Cut, Rename and Append. -/
namespace Go.Proofs.YtgfoogeiancecaaGreatDoor
open Go.RowKit DiskMath
set_option maxRecDepth 100000
set_option linter.unusedSimpArgs false

set_option maxHeartbeats 1000000 in
theorem sync_of [Keep] (fs : Files) (n : ByteArray) (lv : Value) (w : World) (hF : Fv w lv fs) (hlen : fs.length ≤ 1000) :
    Calls Tryz.prog 30 #[lv, .string n] w (Told w (dSync fs n)) := by
  have hp := place_of fs n lv w hF (by omega)
  have kp : ∀ f sv w', Below w.heap.size w w' → Bs w'.heap.size w' sv f.data → Calls Tryz.prog 65 #[lv, .agg #[.string f.name, sv, .int .i64 (f.safe : Int)]] w' fun e w'' => ∃ ov, e = .returned ov ∧ Fo (w'.heap.size + 1) w'' ov (putF fs f) ∧ Below w'.heap.size w' w'' := fun f sv w' hb hB => put_of fs f lv sv w' (hF.below hb) hB hlen
  obtain ⟨hf, ao, cap, rfl, h2⟩ := id hF
  obtain ⟨R, HR⟩ : ∃ R, Hid (R = dSync fs n) := ⟨_, rfl⟩
  rw [← HR.out]
  go_enter Tryz.func30, Tryz.ntmps30
  go_wp2_with fail
  refine hp.mono ?_
  rintro e w1 ⟨hor, hw1⟩
  rw [hw1]
  clear hw1 w1
  rcases hor with ⟨hg, rfl⟩ | ⟨i, f, hx, hg, rfl⟩
  · have E : Hid (R = (fs, 4)) := by show _ = _; rw [HR.out]; unfold dSync; rw [hg]
    clear hg h2 hp HR kp
    go_wp2
    go_ret2
    rw [E.out]
    exact ⟨_, rfl, hF, Below.refl _ _⟩
  · have E : Hid (R = (putF fs ⟨f.name, f.data, f.data.length⟩, 0)) := by show _ = _; rw [HR.out]; unfold dSync; rw [hg, get_name hg]
    have hi := (List.getElem?_eq_some_iff.1 hx).1
    have hii : (i : Int) < (fs.length : Int) := by omega
    have hi0 : ¬ (i : Int) < 0 := by omega
    obtain ⟨b, off, sg, rfl, c0, c1, c2, hBg, -⟩ := h2 i f hx
    obtain ⟨asg, csg, rfl, -⟩ := id hBg
    have hb1 := (Below.refl w.heap.size w).alloc (Nat.le_refl _) (.cells #[.string f.name, .slice asg f.data.length csg, .int .i64 (f.data.length : Int)] 71)
    have k1 := kp ⟨f.name, f.data, f.data.length⟩ (.slice asg f.data.length csg) _ hb1 ((hBg.below hb1).mono hb1.size)
    dsimp only at k1
    clear hg h2 hp hx HR kp
    go_wp2_with fail
    refine k1.mono ?_
    rintro e w2 ⟨ov, rfl, hO, hb⟩
    go_wp2
    go_ret2
    rw [E.out]
    exact ⟨_, rfl, hO.fv, hb1.trans (hb.mono hb1.size)⟩

set_option maxHeartbeats 2000000 in
theorem cut_of [Keep] (fs : Files) (n : ByteArray) (k : Int) (lv : Value) (w : World) (hF : Fv w lv fs) (hlen : fs.length ≤ 1000) :
    Calls Tryz.prog 35 #[lv, .string n, .int .i64 k] w (Told w (dCut fs n k)) := by
  have hp := place_of fs n lv w hF (by omega)
  have kp : ∀ f sv w', Below w.heap.size w w' → Bs w'.heap.size w' sv f.data → Calls Tryz.prog 65 #[lv, .agg #[.string f.name, sv, .int .i64 (f.safe : Int)]] w' fun e w'' => ∃ ov, e = .returned ov ∧ Fo (w'.heap.size + 1) w'' ov (putF fs f) ∧ Below w'.heap.size w' w'' := fun f sv w' hb hB => put_of fs f lv sv w' (hF.below hb) hB hlen
  have hFb : ∀ w', Below w.heap.size w w' → Fv w' lv fs := fun w' hb => hF.below hb
  obtain ⟨hf, ao, cap, rfl, h2⟩ := id hF
  obtain ⟨R, HR⟩ : ∃ R, Hid (R = dCut fs n k) := ⟨_, rfl⟩
  rw [← HR.out]
  go_enter Tryz.func35, Tryz.ntmps35
  go_wp2_with fail
  refine hp.mono ?_
  rintro e w1 ⟨hor, hw1⟩
  rw [hw1]
  clear hw1 w1
  rcases hor with ⟨hg, rfl⟩ | ⟨i, f, hx, hg, rfl⟩
  · have E : Hid (R = (fs, 4)) := by show _ = _; rw [HR.out]; unfold dCut; rw [hg]
    clear hg h2 hp HR kp
    go_wp2
    go_ret2
    rw [E.out]
    exact ⟨_, rfl, hF, Below.refl _ _⟩
  · have E0 : Hid (R = if k < 0 ∨ (f.data.length : Int) < k then (fs, 1) else (putF fs ⟨f.name, f.data.take k.toNat, min f.safe k.toNat⟩, 0)) := by show _ = _; rw [HR.out]; unfold dCut; rw [hg, get_name hg]
    have hi := (List.getElem?_eq_some_iff.1 hx).1
    have hii : (i : Int) < (fs.length : Int) := by omega
    have hi0 : ¬ (i : Int) < 0 := by omega
    obtain ⟨b, off, sg, rfl, c0, c1, c2, hBg, -⟩ := h2 i f hx
    have hcap : ∃ asg csg, sg = .slice asg f.data.length csg ∧ f.data.length ≤ csg ∧ csg ≤ maxLen := by obtain ⟨a, c, e1, e2, e3, _⟩ := id hBg; exact ⟨a, c, e1, e2, e3⟩
    obtain ⟨asg, csg, rfl, hc1, hc2⟩ := hcap
    have hc3 : (csg : Int) ≤ 9223372036854775807 := by unfold maxLen at hc2; omega
    have hbox := (Below.refl w.heap.size w).alloc (Nat.le_refl _) (.cells #[.string f.name, .slice asg f.data.length csg, .int .i64 (f.safe : Int)] 71)
    by_cases hk : k < 0 ∨ (f.data.length : Int) < k
    · have E : Hid (R = (fs, 1)) := by show _ = _; rw [E0.out, if_pos hk]
      have hF1 := hFb _ hbox
      by_cases hk0 : k < 0
      · clear hg h2 hp hx HR kp E0 hk hFb
        go_wp2
        go_ret2
        rw [E.out]
        exact ⟨_, rfl, hF1, hbox⟩
      · have hk1 : (f.data.length : Int) < k := by omega
        clear hg h2 hp hx HR kp E0 hk hFb
        go_wp2
        go_ret2
        rw [E.out]
        exact ⟨_, rfl, hF1, hbox⟩
    · have E : Hid (R = (putF fs ⟨f.name, f.data.take k.toNat, min f.safe k.toNat⟩, 0)) := by show _ = _; rw [E0.out, if_neg hk]
      obtain ⟨m, rfl⟩ : ∃ m : Nat, k = (m : Int) := ⟨k.toNat, by omega⟩
      rw [Int.toNat_natCast] at E
      have hm : m ≤ f.data.length := by omega
      have hk0 : ¬ (m : Int) < 0 := by omega
      have hk1 : ¬ (f.data.length : Int) < (m : Int) := by omega
      have hmc : (m : Int) ≤ (csg : Int) := by omega
      have hmc2 : m ≤ csg := by omega
      have hBm := Bs.took hBg hm
      by_cases hs : m < f.safe
      · have hsi : (m : Int) < (f.safe : Int) := by omega
        have hb1 := (Below.refl w.heap.size w).alloc (Nat.le_refl _) (.cells #[.string f.name, .slice asg m csg, .int .i64 (m : Int)] 71)
        have k1 := kp ⟨f.name, f.data.take m, m⟩ (.slice asg m csg) _ hb1 ((hBm.below hb1).mono hb1.size)
        dsimp only at k1
        have E' : Hid (R = (putF fs ⟨f.name, f.data.take m, m⟩, 0)) := by show _ = _; rw [E.out, Nat.min_eq_right (by omega)]
        clear hg h2 hp hx HR kp E0 hk E hBm hbox hFb
        go_wp2_with fail
        refine k1.mono ?_
        rintro e w2 ⟨ov, rfl, hO, hb⟩
        go_wp2
        go_ret2
        rw [E'.out]
        exact ⟨_, rfl, hO.fv, hb1.trans (hb.mono hb1.size)⟩
      · have hsi : ¬ (m : Int) < (f.safe : Int) := by omega
        have hb1 := (Below.refl w.heap.size w).alloc (Nat.le_refl _) (.cells #[.string f.name, .slice asg m csg, .int .i64 (f.safe : Int)] 71)
        have k1 := kp ⟨f.name, f.data.take m, f.safe⟩ (.slice asg m csg) _ hb1 ((hBm.below hb1).mono hb1.size)
        dsimp only at k1
        have E' : Hid (R = (putF fs ⟨f.name, f.data.take m, f.safe⟩, 0)) := by show _ = _; rw [E.out, Nat.min_eq_left (by omega)]
        clear hg h2 hp hx HR kp E0 hk E hBm hbox hFb
        go_wp2_with fail
        refine k1.mono ?_
        rintro e w2 ⟨ov, rfl, hO, hb⟩
        go_wp2
        go_ret2
        rw [E'.out]
        exact ⟨_, rfl, hO.fv, hb1.trans (hb.mono hb1.size)⟩

end Go.Proofs.YtgfoogeiancecaaGreatDoor

/- The contract of the document's own Append. -/
namespace Go.Proofs.YtgfoogeiancecaaGreatDoor
open Go.RowKit DiskMath
set_option maxRecDepth 100000
set_option linter.unusedSimpArgs false

theorem set_grown (q i : Nat) (v : Value) (w : World) : w.grownBy (w.setCell ⟨q, i, none⟩ v) (some q) :=
  ⟨rfl, rfl, rfl, by simp [World.setCell], fun k _ hk => Below.heap_setCell _ _ _ _ (fun e => hk (by simp [e]))⟩
theorem box_data {w : World} {g : Nat} {a b c : Value} {t : TypeId} (h : w.heap[g]? = some (.cells #[a, b, c] t (0, 0))) (x : Value) : (w.setCell ⟨g, 1, none⟩ x).heap[g]? = some (.cells #[a, x, c] t (0, 0)) := by
  simp [World.setCell, Array.getElem?_modify, h]

set_option maxHeartbeats 2000000 in
theorem append_of [Keep] (fs : Files) (n : ByteArray) (bl : List Nat) (lv bv : Value) (w : World) (hF : Fv w lv fs) (hB : Bs w.heap.size w bv bl) (hlen : fs.length ≤ 1000) (hbl : bl.length ≤ 140737488355328) (hfd : ∀ f ∈ fs, f.data.length ≤ 65536) :
    Calls Tryz.prog 50 #[lv, .string n, bv] w (Told w (dAppend fs n bl)) := by
  have hp := place_of fs n lv w hF (by omega)
  have hnm := name_of n w
  have kp : ∀ f sv w', Below w.heap.size w w' → Bs w'.heap.size w' sv f.data → Calls Tryz.prog 65 #[lv, .agg #[.string f.name, sv, .int .i64 (f.safe : Int)]] w' fun e w'' => ∃ ov, e = .returned ov ∧ Fo (w'.heap.size + 1) w'' ov (putF fs f) ∧ Below w'.heap.size w' w'' := fun f sv w' hb hB => put_of fs f lv sv w' (hF.below hb) hB hlen
  have hFb : ∀ w', Below w.heap.size w w' → Fv w' lv fs := fun w' hb => hF.below hb
  obtain ⟨hf, ao, cap, rfl, h2⟩ := id hF
  obtain ⟨ab, cb, rfl, -⟩ := id hB
  obtain ⟨R, HR⟩ : ∃ R, Hid (R = dAppend fs n bl) := ⟨_, rfl⟩
  rw [← HR.out]
  cases hmt : mayName n with
  | false =>
    have E : Hid (R = (fs, 1)) := by show _ = _; rw [HR.out]; unfold dAppend; rw [if_pos hmt]
    rw [hmt] at hnm
    clear h2 hp HR kp hmt
    go_enter Tryz.func50, Tryz.ntmps50
    go_wp2_with fail
    refine hnm.mono ?_
    rintro e w2 ⟨rfl, hw2⟩
    rw [hw2]
    clear hw2 w2
    go_wp2
    go_ret2
    rw [E.out]
    exact ⟨_, rfl, hF, Below.refl _ _⟩
  | true =>
    rw [hmt] at hnm
    have hmf : ¬ mayName n = false := by simp [hmt]
    go_enter Tryz.func50, Tryz.ntmps50
    go_wp2_with fail
    refine hnm.mono ?_
    rintro e w2 ⟨rfl, hw2⟩
    rw [hw2]
    clear hw2 w2
    go_wp2_with fail
    refine hp.mono ?_
    rintro e w1 ⟨hor, hw1⟩
    rw [hw1]
    clear hw1 w1 hp hnm
    rcases hor with ⟨hg, rfl⟩ | ⟨i, f, hx, hg, rfl⟩
    · have E0 : Hid (R = if 64 ≤ fs.length ∨ 65536 < bl.length then (fs, 2) else (putF fs ⟨n, bl, 0⟩, 0)) := by show _ = _; rw [HR.out]; unfold dAppend; rw [if_neg hmf, hg]
      have hbox := (Below.refl w.heap.size w).alloc (Nat.le_refl _) (.cells #[.string n, .slice none 0 0, .int .i64 0] 71)
      have hbx := heap_alloc_new w (.cells #[.string n, .slice none 0 0, .int .i64 0] 71)
      have hszx : (w.alloc (.cells #[.string n, .slice none 0 0, .int .i64 0] 71)).heap.size = w.heap.size + 1 := by simp
      have hF1 := hFb _ hbox
      have q1 : IntKind.i64.wrap (bl.length : Int) = (bl.length : Int) := IntWalk.i64_in _ (by omega)
      clear hg hmt hmf h2 HR
      by_cases hfull : 64 ≤ fs.length ∨ 65536 < bl.length
      · have E : Hid (R = (fs, 2)) := by show _ = _; rw [E0.out, if_pos hfull]
        by_cases h64 : 64 ≤ fs.length
        · have h64i : (64 : Int) ≤ (fs.length : Int) := by omega
          go_wp2
          go_ret2
          rw [E.out]
          exact ⟨_, rfl, hF1, hbox⟩
        · have h64i : ¬ (64 : Int) ≤ (fs.length : Int) := by omega
          have hbi : (65536 : Int) < (bl.length : Int) := by omega
          go_wp2
          go_ret2
          rw [E.out]
          exact ⟨_, rfl, hF1, hbox⟩
      · have E : Hid (R = (putF fs ⟨n, bl, 0⟩, 0)) := by show _ = _; rw [E0.out, if_neg hfull]
        have h64i : ¬ (64 : Int) ≤ (fs.length : Int) := by omega
        have hbi : ¬ (65536 : Int) < (bl.length : Int) := by omega
        clear hfull E0 hF1 hFb
        have hO1 := own_new (w.alloc (.cells #[.string n, .slice none 0 0, .int .i64 0] 71)) #[] [] rfl (by simp)
        have hbO := (Below.refl _ (w.alloc (.cells #[.string n, .slice none 0 0, .int .i64 0] 71))).alloc (Nat.le_refl _) (.cells #[] 5)
        rw [hszx] at hO1 hbO
        have hsO : w.heap.size + 1 ≤ ((w.alloc (.cells #[.string n, .slice none 0 0, .int .i64 0] 71)).alloc (.cells #[] 5)).heap.size := by simp
        have hbwO : Below w.heap.size w ((w.alloc (.cells #[.string n, .slice none 0 0, .int .i64 0] 71)).alloc (.cells #[] 5)) := hbox.trans (hbO.mono (Nat.le_succ _))
        have hBb : ∀ w', Below w.heap.size w w' → Bs w.heap.size w' (.slice ab bl.length cb) bl := fun w' hb => hB.below hb
        have hB3 := hBb _ hbwO
        have hc3 : ([] : List Nat).length + bl.length ≤ 140737488355328 := by simp; omega
        go_wp2_with (at_builtin; refine wpList_append_bs rfl _ _ rfl (w.heap.size + 1) _ [] rfl hO1 hsO w.heap.size _ bl rfl hB3 hc3 ?_)
        intro v4 w4 hO4 hb4
        have hbX4 := hbO.trans hb4
        have hbk4 := (hbX4.block w.heap.size (Nat.lt_succ_self _)).trans hbx
        have d0 : w4.cell? ⟨w.heap.size, 0, none⟩ = some (.string n) := by rw [cells_of_block hbk4]; rfl
        have d1 : w4.cell? ⟨w.heap.size, 1, none⟩ = some (.slice none 0 0) := by rw [cells_of_block hbk4]; rfl
        have d2 : w4.cell? ⟨w.heap.size, 2, none⟩ = some (.int .i64 0) := by rw [cells_of_block hbk4]; rfl
        have g1 := frozen_of hbk4 1
        have hbw4 : Below w.heap.size w w4 := hbox.trans (hbX4.mono (Nat.le_succ _))
        have hbw5 := hbw4.setCell (p := ⟨w.heap.size, 1, none⟩) (Nat.le_refl _) v4
        have hB5 : Bs (w4.setCell ⟨w.heap.size, 1, none⟩ v4).heap.size (w4.setCell ⟨w.heap.size, 1, none⟩ v4) v4 (([] : List Nat) ++ bl) := by
          have := (hO4.bs (Nat.le_succ_of_le hf)).grown (set_grown w.heap.size 1 v4 w4) (fun k hk e => by
            have := (World.ownsRow.lt hO4 k hk).1
            cases e
            omega)
          have hsz5 : (w4.setCell ⟨w.heap.size, 1, none⟩ v4).heap.size = w4.heap.size := by simp [World.setCell]
          rw [hsz5]
          simpa using this
        have hbk5 := box_data hbk4 v4
        have e0 : (w4.setCell ⟨w.heap.size, 1, none⟩ v4).cell? ⟨w.heap.size, 0, none⟩ = some (.string n) := by rw [cells_of_block hbk5]; rfl
        have e1 : (w4.setCell ⟨w.heap.size, 1, none⟩ v4).cell? ⟨w.heap.size, 1, none⟩ = some v4 := by rw [cells_of_block hbk5]; rfl
        have e2 : (w4.setCell ⟨w.heap.size, 1, none⟩ v4).cell? ⟨w.heap.size, 2, none⟩ = some (.int .i64 0) := by rw [cells_of_block hbk5]; rfl
        have k1 := kp ⟨n, ([] : List Nat) ++ bl, 0⟩ v4 _ hbw5 hB5
        dsimp only at k1
        obtain ⟨a4, c4, rfl⟩ := hO4.shape
        clear hO4 hO1 hB5 hbk5 hbk4 hbX4 kp
        go_wp2_with fail
        refine k1.mono ?_
        rintro e w6 ⟨ov, rfl, hO6, hb6⟩
        go_wp2
        go_ret2
        rw [E.out]
        exact ⟨_, rfl, hO6.fv, hbw5.trans (hb6.mono hbw5.size)⟩
    · have E0 : Hid (R = if 65536 < f.data.length + bl.length then (fs, 2) else (putF fs ⟨f.name, f.data ++ bl, f.safe⟩, 0)) := by show _ = _; rw [HR.out]; unfold dAppend; rw [if_neg hmf, hg, get_name hg]
      have hi := (List.getElem?_eq_some_iff.1 hx).1
      have hii : (i : Int) < (fs.length : Int) := by omega
      have hi0 : ¬ (i : Int) < 0 := by omega
      have hi1 : (0 : Int) ≤ (i : Int) := by omega
      have hfl := hfd f (List.mem_of_getElem? hx)
      obtain ⟨b, off, sg, rfl, c0, c1, c2, hBg, -⟩ := h2 i f hx
      obtain ⟨asg, csg, rfl, -⟩ := id hBg
      have hb00 := (Below.refl w.heap.size w).alloc (Nat.le_refl _) (.cells #[.string n, .slice none 0 0, .int .i64 0] 71)
      have c0' := (hb00.cell (p := ⟨b, off + i * 3, none⟩) (World.block_lt_of_cell? w _ c0)).trans c0
      have c1' := (hb00.cell (p := ⟨b, off + i * 3 + 1, none⟩) (World.block_lt_of_cell? w _ c1)).trans c1
      have c2' := (hb00.cell (p := ⟨b, off + i * 3 + 2, none⟩) (World.block_lt_of_cell? w _ c2)).trans c2
      clear c0 c1 c2
      have hbox := (Below.refl w.heap.size w).alloc (Nat.le_refl _) (.cells #[.string f.name, .slice asg f.data.length csg, .int .i64 (f.safe : Int)] 71)
      have hbx := heap_alloc_new w (.cells #[.string f.name, .slice asg f.data.length csg, .int .i64 (f.safe : Int)] 71)
      have hszx : (w.alloc (.cells #[.string f.name, .slice asg f.data.length csg, .int .i64 (f.safe : Int)] 71)).heap.size = w.heap.size + 1 := by simp
      have hF1 := hFb _ hbox
      have q1 : IntKind.i64.wrap ((f.data.length : Int) + (bl.length : Int)) = (f.data.length : Int) + (bl.length : Int) := IntWalk.i64_in _ (by omega)
      clear hg hmt hmf h2 HR hx
      by_cases hfull : 65536 < f.data.length + bl.length
      · have E : Hid (R = (fs, 2)) := by show _ = _; rw [E0.out, if_pos hfull]
        have hbi : (65536 : Int) < (f.data.length : Int) + (bl.length : Int) := by omega
        go_wp2
        go_ret2
        rw [E.out]
        exact ⟨_, rfl, hF1, hbox⟩
      · have E : Hid (R = (putF fs ⟨f.name, f.data ++ bl, f.safe⟩, 0)) := by show _ = _; rw [E0.out, if_neg hfull]
        have hbi : ¬ (65536 : Int) < (f.data.length : Int) + (bl.length : Int) := by omega
        clear hfull E0 hF1 hFb
        have hO1 := own_new (w.alloc (.cells #[.string f.name, .slice asg f.data.length csg, .int .i64 (f.safe : Int)] 71)) #[] [] rfl (by simp)
        have hbO := (Below.refl _ (w.alloc (.cells #[.string f.name, .slice asg f.data.length csg, .int .i64 (f.safe : Int)] 71))).alloc (Nat.le_refl _) (.cells #[] 5)
        rw [hszx] at hO1 hbO
        have hsO : w.heap.size + 1 ≤ ((w.alloc (.cells #[.string f.name, .slice asg f.data.length csg, .int .i64 (f.safe : Int)] 71)).alloc (.cells #[] 5)).heap.size := by simp
        have hbwO : Below w.heap.size w ((w.alloc (.cells #[.string f.name, .slice asg f.data.length csg, .int .i64 (f.safe : Int)] 71)).alloc (.cells #[] 5)) := hbox.trans (hbO.mono (Nat.le_succ _))
        have hD1 : Bs w.heap.size ((w.alloc (.cells #[.string f.name, .slice asg f.data.length csg, .int .i64 (f.safe : Int)] 71)).alloc (.cells #[] 5)) (.slice asg f.data.length csg) f.data := hBg.below hbwO
        have hBb : ∀ w', Below w.heap.size w w' → Bs w.heap.size w' (.slice ab bl.length cb) bl := fun w' hb => hB.below hb
        have hc1 : ([] : List Nat).length + f.data.length ≤ 140737488355328 := by simp; try omega
        have hc2 : f.data.length + bl.length ≤ 140737488355328 := by omega
        go_wp2_with (at_builtin; refine wpList_append_bs rfl _ _ rfl (w.heap.size + 1) _ [] rfl hO1 hsO w.heap.size _ f.data rfl hD1 hc1 ?_)
        intro v3 w3 hO3 hb3
        have hbX3 := hbO.trans hb3
        have hbw3 : Below w.heap.size w w3 := hbox.trans (hbX3.mono (Nat.le_succ _))
        have hs3 : w.heap.size + 1 ≤ w3.heap.size := Nat.le_trans hsO hb3.size
        have hB3 := hBb w3 hbw3
        have hO3' : Own (w.heap.size + 1) w3 v3 f.data := hO3
        clear hO3
        go_wp2_with (at_builtin; refine wpList_append_bs rfl _ _ rfl (w.heap.size + 1) _ f.data rfl hO3' hs3 w.heap.size _ bl rfl hB3 hc2 ?_)
        intro v4 w4 hO4 hb4
        have hbX4 := hbX3.trans hb4
        have hbk4 := (hbX4.block w.heap.size (Nat.lt_succ_self _)).trans hbx
        have d0 : w4.cell? ⟨w.heap.size, 0, none⟩ = some (.string f.name) := by rw [cells_of_block hbk4]; rfl
        have d1 : w4.cell? ⟨w.heap.size, 1, none⟩ = some (.slice asg f.data.length csg) := by rw [cells_of_block hbk4]; rfl
        have d2 : w4.cell? ⟨w.heap.size, 2, none⟩ = some (.int .i64 (f.safe : Int)) := by rw [cells_of_block hbk4]; rfl
        have g1 := frozen_of hbk4 1
        have hbw4 : Below w.heap.size w w4 := hbox.trans (hbX4.mono (Nat.le_succ _))
        have hbw5 := hbw4.setCell (p := ⟨w.heap.size, 1, none⟩) (Nat.le_refl _) v4
        have hB5 : Bs (w4.setCell ⟨w.heap.size, 1, none⟩ v4).heap.size (w4.setCell ⟨w.heap.size, 1, none⟩ v4) v4 (f.data ++ bl) := by
          have := (hO4.bs (Nat.le_succ_of_le hf)).grown (set_grown w.heap.size 1 v4 w4) (fun k hk e => by
            have := (World.ownsRow.lt hO4 k hk).1
            cases e
            omega)
          have hsz5 : (w4.setCell ⟨w.heap.size, 1, none⟩ v4).heap.size = w4.heap.size := by simp [World.setCell]
          rw [hsz5]
          simpa using this
        have hbk5 := box_data hbk4 v4
        have e0 : (w4.setCell ⟨w.heap.size, 1, none⟩ v4).cell? ⟨w.heap.size, 0, none⟩ = some (.string f.name) := by rw [cells_of_block hbk5]; rfl
        have e1 : (w4.setCell ⟨w.heap.size, 1, none⟩ v4).cell? ⟨w.heap.size, 1, none⟩ = some v4 := by rw [cells_of_block hbk5]; rfl
        have e2 : (w4.setCell ⟨w.heap.size, 1, none⟩ v4).cell? ⟨w.heap.size, 2, none⟩ = some (.int .i64 (f.safe : Int)) := by rw [cells_of_block hbk5]; rfl
        have k1 := kp ⟨f.name, f.data ++ bl, f.safe⟩ v4 _ hbw5 hB5
        dsimp only at k1
        obtain ⟨a4, c4, e4⟩ := hO4.shape
        rw [List.length_append] at e4
        subst e4
        clear hO4 hO3' hO1 hB5 hbk5 hbk4 hbX4 hD1 kp
        go_wp2_with fail
        refine k1.mono ?_
        rintro e w6 ⟨ov, rfl, hO6, hb6⟩
        go_wp2
        go_ret2
        rw [E.out]
        exact ⟨_, rfl, hO6.fv, hbw5.trans (hb6.mono hbw5.size)⟩
end Go.Proofs.YtgfoogeiancecaaGreatDoor

/- The contract of the document's own Crash. -/
namespace Go.Proofs.YtgfoogeiancecaaGreatDoor
open Go.RowKit DiskMath
set_option maxRecDepth 100000
set_option linter.unusedSimpArgs false

/-- A slice of numbers, as it is read. -/
def Nv (w : World) (v : Value) (l : List Int) : Prop :=
  ∃ ao cap, v = .slice ao l.length cap ∧ (ao = none → cap = 0) ∧ ∀ (i : Nat) (c : Int), l[i]? = some c → ∃ b off, ao = some ⟨b, off, none⟩ ∧ w.cell? ⟨b, off + i, none⟩ = some (.int .i64 c)
theorem Nv.below {w w' : World} {v : Value} {l : List Int} (h : Nv w v l) (hb : Below w.heap.size w w') : Nv w' v l := by
  obtain ⟨ao, cap, e, h0, h2⟩ := h
  refine ⟨ao, cap, e, h0, fun i c hc => ?_⟩
  obtain ⟨b, off, r1, r2⟩ := h2 i c hc
  exact ⟨b, off, r1, (hb.cell (p := ⟨b, off + i, none⟩) (World.block_lt_of_cell? w _ r2)).trans r2⟩

theorem crash_cons (f : File) (l : Files) (cuts : List Int) (i : Nat) : crash (f :: l) (cuts.drop i) = crashOne f cuts[i]? :: crash l (cuts.drop (i + 1)) := by
  rw [crash, List.head?_drop, List.tail_drop]

set_option maxHeartbeats 2000000 in
theorem crash_of [Keep] (fs : Files) (cuts : List Int) (lv cv : Value) (w : World) (hF : Fv w lv fs) (hC : Nv w cv cuts) (hlen : fs.length ≤ 1000) (hs : ∀ f ∈ fs, f.safe ≤ f.data.length ∧ f.data.length ≤ 65536) :
    Calls Tryz.prog 16 #[lv, cv] w fun e w' => ∃ ov, e = .returned ov ∧ Fo w.heap.size w' ov (crash fs cuts) ∧ Below w.heap.size w w' := by
  obtain ⟨hf, ao, cap, rfl, h2⟩ := id hF
  obtain ⟨ac, cc, rfl, -, hcc⟩ := id hC
  obtain ⟨R, HR⟩ : ∃ R, Hid (R = crash fs cuts) := ⟨_, rfl⟩
  rw [← HR.out]
  have hF0 := Fo.none w hf
  clear hf
  have hb0 := (Below.refl w.heap.size w).alloc (Nat.le_refl _) (.cells #[] 71)
  go_enter Tryz.func16, Tryz.ntmps16
  go_wp2
  go_loopg [5, 6] fs.length (fun g s5 s6 wr => ∃ (i : Nat) (bl : Files), i + g = fs.length ∧ bl.length ≤ i ∧ s6 = .int .i64 (i : Int) ∧ Fo w.heap.size wr s5 bl ∧ Below w.heap.size w wr ∧ Hid (R = bl ++ crash (fs.drop i) (cuts.drop i)))
  case atStart => exact ⟨0, [], by simp, by simp, rfl, hF0, hb0, by show _ = _; rw [HR.out]; rfl⟩
  case round =>
    clear hF0 hb0 HR
    obtain ⟨i, bl, hi, hbl, rfl, hO, hbel, E⟩ := hrel
    obtain ⟨ai, ci, rfl⟩ := hO.shape
    by_cases hlt : i < fs.length
    · have hlti : (i : Int) < (fs.length : Int) := by omega
      have hx : fs[i]? = some fs[i] := List.getElem?_eq_getElem hlt
      obtain ⟨b, off, sg, rfl, c0, c1, c2, hBg, -⟩ := h2 i fs[i] hx
      have hsd := hs fs[i] (List.getElem_mem hlt)
      rw [drop_at hlt, crash_cons] at E
      generalize fs[i] = g at *
      have hcap : ∃ asg csg, sg = .slice asg g.data.length csg ∧ g.data.length ≤ csg ∧ csg ≤ maxLen := by obtain ⟨a, c, e1, e2, e3, _⟩ := id hBg; exact ⟨a, c, e1, e2, e3⟩
      obtain ⟨asg, csg, rfl, hc1, hc2⟩ := hcap
      have c0' := (hbel.cell (p := ⟨b, off + i * 3, none⟩) (World.block_lt_of_cell? w _ c0)).trans c0
      have c1' := (hbel.cell (p := ⟨b, off + i * 3 + 1, none⟩) (World.block_lt_of_cell? w _ c1)).trans c1
      have c2' := (hbel.cell (p := ⟨b, off + i * 3 + 2, none⟩) (World.block_lt_of_cell? w _ c2)).trans c2
      clear hx c0 c1 c2 h2 hF
      by_cases hic : i < cuts.length
      · have hici : (i : Int) < (cuts.length : Int) := by omega
        have hcx : cuts[i]? = some cuts[i] := List.getElem?_eq_getElem hic
        obtain ⟨bc, oc, rfl, k0⟩ := hcc i cuts[i] hcx
        have k0' := (hbel.cell (p := ⟨bc, oc + i, none⟩) (World.block_lt_of_cell? w _ k0)).trans k0
        rw [hcx] at E
        generalize cuts[i] = q at *
        clear hcx hcc hC k0
        have hbX := (Below.refl wr.heap.size wr).alloc (Nat.le_refl _) (.cells #[.string g.name, .slice asg g.data.length csg, .int .i64 (g.safe : Int)] 71)
        have k1 := (hbX.cell (p := ⟨bc, oc + i, none⟩) (World.block_lt_of_cell? wr _ k0')).trans k0'
        obtain ⟨g0, hg0⟩ : ∃ g0, g0 = gk := ⟨_, rfl⟩
        subst hg0
        obtain ⟨w0, hw0⟩ : ∃ x, x = wr := ⟨_, rfl⟩
        subst hw0
        go_wp2
        go_loopg [8, 9] g.data.length (fun gg s8 s9 wq => ∃ c m : Nat, c + gg = g.data.length ∧ Hid (m = g.safe + c) ∧ s9 = .int .i64 (c : Int) ∧ s8 = .int .i64 (m : Int) ∧ m ≤ g.data.length ∧ c ≤ q.toNat ∧ wq = w0.alloc (.cells #[.string g.name, .slice asg g.data.length csg, .int .i64 (g.safe : Int)] 71))
        case atStart => exact ⟨0, g.safe, by simp, rfl, rfl, rfl, by omega, by omega, rfl⟩
        case round =>
          obtain ⟨c, m, hcg, Hm, rfl, rfl, hcl, hcq, rfl⟩ := hrel
          by_cases hgo : (c : Int) < q ∧ m < g.data.length
          · obtain ⟨y1, y2⟩ := hgo
            have y2i : (m : Int) < (g.data.length : Int) := by omega
            have hcl2 : c < g.data.length := by
              have hm := Hm.out
              omega
            have Hm' : Hid (m + 1 = g.safe + (c + 1)) := by show _ = _; rw [Hm.out]; omega
            go_wp2
            go_roundg (gk - 1)
            case measure => omega
            case rel => exact ⟨c + 1, m + 1, by omega, Hm', by go_num, by go_num, by omega, by omega, rfl⟩
          · have hleft : Hid (left g (some q) = m) := by
              have hm := Hm.out
              show _ = _
              unfold left
              simp only
              omega
            by_cases y1 : (c : Int) < q
            · have y2 : ¬ (m : Int) < (g.data.length : Int) := by omega
              clear hgo
              have hE : Hid (R = (bl ++ [⟨g.name, g.data.take m, m⟩]) ++ crash (fs.drop (i + 1)) (cuts.drop (i + 1))) := by
                show _ = _
                rw [E.out, show crashOne g (some q) = ⟨g.name, g.data.take m, m⟩ by unfold crashOne; rw [hleft.out]]
                simp
              have hml : m ≤ g.data.length := by omega
              have hmc : (m : Int) ≤ (csg : Int) := by omega
              have hmc2 : m ≤ csg := by omega
              have hcm : (csg : Int) ≤ 9223372036854775807 := by unfold maxLen at hc2; omega
              have hbY := (Below.refl w0.heap.size w0).alloc (Nat.le_refl _) (.cells #[.string g.name, .slice asg m csg, .int .i64 (m : Int)] 71)
              have hszY : (w0.alloc (.cells #[.string g.name, .slice asg m csg, .int .i64 (m : Int)] 71)).heap.size = w0.heap.size + 1 := by simp
              have hOY := hO.below hbY
              have hbwY := hbel.trans (hbY.mono hbel.size)
              have hBm := Bs.took hBg hml
              have hkg := apart (d := (⟨g.name, g.data.take m, m⟩ : File).data) hBm (Nat.le_refl _) hOY hbwY.size
              have hBY : Bs (w0.alloc (.cells #[.string g.name, .slice asg m csg, .int .i64 (m : Int)] 71)).heap.size (w0.alloc (.cells #[.string g.name, .slice asg m csg, .int .i64 (m : Int)] 71)) (.slice asg m csg) (⟨g.name, g.data.take m, m⟩ : File).data := (hBm.below hbwY).mono hbwY.size
              have hbl1 : bl.length ≤ 1000000 := by omega
              clear hO hBm E
              go_wp2_with (at_builtin; refine wp_push_file rfl _ _ rfl w.heap.size _ bl ⟨g.name, g.data.take m, m⟩ _ hOY hbwY.size hbl1 hBY hkg rfl (by rw [hszY]; rfl) ?_)
              intro ov8 w8 hO8 hb8
              go_wp2
              go_roundg (g0 - 1)
              case measure => omega
              case rel => exact ⟨i + 1, bl ++ [⟨g.name, g.data.take m, m⟩], by omega, by simp; omega, by go_num, hO8, hbwY.trans hb8, hE⟩
            · clear hgo
              have hE : Hid (R = (bl ++ [⟨g.name, g.data.take m, m⟩]) ++ crash (fs.drop (i + 1)) (cuts.drop (i + 1))) := by
                show _ = _
                rw [E.out, show crashOne g (some q) = ⟨g.name, g.data.take m, m⟩ by unfold crashOne; rw [hleft.out]]
                simp
              have hml : m ≤ g.data.length := by omega
              have hmc : (m : Int) ≤ (csg : Int) := by omega
              have hmc2 : m ≤ csg := by omega
              have hcm : (csg : Int) ≤ 9223372036854775807 := by unfold maxLen at hc2; omega
              have hbY := (Below.refl w0.heap.size w0).alloc (Nat.le_refl _) (.cells #[.string g.name, .slice asg m csg, .int .i64 (m : Int)] 71)
              have hszY : (w0.alloc (.cells #[.string g.name, .slice asg m csg, .int .i64 (m : Int)] 71)).heap.size = w0.heap.size + 1 := by simp
              have hOY := hO.below hbY
              have hbwY := hbel.trans (hbY.mono hbel.size)
              have hBm := Bs.took hBg hml
              have hkg := apart (d := (⟨g.name, g.data.take m, m⟩ : File).data) hBm (Nat.le_refl _) hOY hbwY.size
              have hBY : Bs (w0.alloc (.cells #[.string g.name, .slice asg m csg, .int .i64 (m : Int)] 71)).heap.size (w0.alloc (.cells #[.string g.name, .slice asg m csg, .int .i64 (m : Int)] 71)) (.slice asg m csg) (⟨g.name, g.data.take m, m⟩ : File).data := (hBm.below hbwY).mono hbwY.size
              have hbl1 : bl.length ≤ 1000000 := by omega
              clear hO hBm E
              go_wp2_with (at_builtin; refine wp_push_file rfl _ _ rfl w.heap.size _ bl ⟨g.name, g.data.take m, m⟩ _ hOY hbwY.size hbl1 hBY hkg rfl (by rw [hszY]; rfl) ?_)
              intro ov8 w8 hO8 hb8
              go_wp2
              go_roundg (g0 - 1)
              case measure => omega
              case rel => exact ⟨i + 1, bl ++ [⟨g.name, g.data.take m, m⟩], by omega, by simp; omega, by go_num, hO8, hbwY.trans hb8, hE⟩
      · have hici : ¬ (i : Int) < (cuts.length : Int) := by omega
        have hcx : cuts[i]? = none := List.getElem?_eq_none (by omega)
        rw [hcx] at E
        obtain ⟨m, hm⟩ : ∃ m, m = g.safe := ⟨_, rfl⟩
        have hmH : Hid (m = g.safe) := hm
        rw [← hm] at c2'
        have hml0 : m ≤ g.data.length := by omega
        clear hcx hcc hC hm
        have hE : Hid (R = (bl ++ [⟨g.name, g.data.take m, m⟩]) ++ crash (fs.drop (i + 1)) (cuts.drop (i + 1))) := by
          show _ = _
          rw [E.out, show crashOne g none = ⟨g.name, g.data.take m, m⟩ by unfold crashOne left; rw [hmH.out]]
          simp
        have hml : m ≤ g.data.length := by omega
        have hmc : (m : Int) ≤ (csg : Int) := by omega
        have hmc2 : m ≤ csg := by omega
        have hcm : (csg : Int) ≤ 9223372036854775807 := by unfold maxLen at hc2; omega
        have hbY := (Below.refl wr.heap.size wr).alloc (Nat.le_refl _) (.cells #[.string g.name, .slice asg m csg, .int .i64 (m : Int)] 71)
        have hszY : (wr.alloc (.cells #[.string g.name, .slice asg m csg, .int .i64 (m : Int)] 71)).heap.size = wr.heap.size + 1 := by simp
        have hOY := hO.below hbY
        have hbwY := hbel.trans (hbY.mono hbel.size)
        have hBm := Bs.took hBg hml
        have hkg := apart (d := (⟨g.name, g.data.take m, m⟩ : File).data) hBm (Nat.le_refl _) hOY hbwY.size
        have hBY : Bs (wr.alloc (.cells #[.string g.name, .slice asg m csg, .int .i64 (m : Int)] 71)).heap.size (wr.alloc (.cells #[.string g.name, .slice asg m csg, .int .i64 (m : Int)] 71)) (.slice asg m csg) (⟨g.name, g.data.take m, m⟩ : File).data := (hBm.below hbwY).mono hbwY.size
        have hbl1 : bl.length ≤ 1000000 := by omega
        clear hO hBm E
        go_wp2_with (at_builtin; refine wp_push_file rfl _ _ rfl w.heap.size _ bl ⟨g.name, g.data.take m, m⟩ _ hOY hbwY.size hbl1 hBY hkg rfl (by rw [hszY]; rfl) ?_)
        intro ov8 w8 hO8 hb8
        go_wp2
        go_roundg (gk - 1)
        case measure => omega
        case rel => exact ⟨i + 1, bl ++ [⟨g.name, g.data.take m, m⟩], by omega, by simp; omega, by go_num, hO8, hbwY.trans hb8, hE⟩
    · have hlti : ¬ (i : Int) < (fs.length : Int) := by omega
      have E' : Hid (R = bl) := by show _ = _; rw [E.out, List.drop_eq_nil_of_le (by omega)]; simp [crash]
      clear h2 hF
      go_wp2
      go_ret
      rw [E'.out]
      exact ⟨_, rfl, hO, hbel⟩
end Go.Proofs.YtgfoogeiancecaaGreatDoor

