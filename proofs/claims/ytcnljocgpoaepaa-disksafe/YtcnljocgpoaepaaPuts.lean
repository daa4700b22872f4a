/- Files in a row of one's own; the contracts of the document's own Read, put and out. -/
import Derived.Test.YtcnljocgpoaepaaFiles
import Derived.Sort.Walk0
namespace Go.Proofs.Ytcnljocgpoaepaa
open Go.RowKit DiskMath
set_option maxRecDepth 100000
set_option linter.unusedSimpArgs false

theorem infoFile : (Try.prog.info? 46).map (fun i => (i.zero, i.size, i.bytes)) = some (some (.agg #[.string ByteArray.empty, .slice none 0 0, .int .i64 0]), 3, 48) := by kernel_rfl

/-- Files as cells. -/
def fcells : Files → List Value → List Value
  | f :: fs, sv :: cs => .string f.name :: sv :: .int .i64 (f.safe : Int) :: fcells fs cs
  | _, _ => []
theorem fcells_append (y : File) (u : Value) : ∀ (fs : Files) (cs : List Value), cs.length = fs.length → fcells (fs ++ [y]) (cs ++ [u]) = fcells fs cs ++ [.string y.name, u, .int .i64 (y.safe : Int)]
  | [], [], _ => rfl
  | x :: fs, sv :: cs, h => by
    simp only [List.cons_append, fcells]
    rw [fcells_append y u fs cs (by simpa using h)]
  | [], _ :: _, h => by simp at h
  | _ :: _, [], h => by simp at h
theorem fcells_get : ∀ (fs : Files) (cs : List Value) (i : Nat) (x : File) (sv : Value), fs[i]? = some x → cs[i]? = some sv → (fcells fs cs)[3 * i]? = some (.string x.name) ∧ (fcells fs cs)[3 * i + 1]? = some sv ∧ (fcells fs cs)[3 * i + 2]? = some (.int .i64 (x.safe : Int))
  | [], _, i, x, sv, h, _ => by simp at h
  | _ :: _, [], i, x, sv, _, h => by simp at h
  | y :: fs, u :: cs, 0, x, sv, h, h' => by
    simp only [List.getElem?_cons_zero, Option.some.injEq] at h h'
    subst h h'
    exact ⟨rfl, rfl, rfl⟩
  | y :: fs, u :: cs, i + 1, x, sv, h, h' => by
    obtain ⟨h1, h2, h3⟩ := fcells_get fs cs i x sv (by simpa using h) (by simpa using h')
    refine ⟨?_, ?_, ?_⟩
    · rw [show 3 * (i + 1) = 3 * i + 1 + 1 + 1 by omega]
      simpa [fcells] using h1
    · rw [show 3 * (i + 1) + 1 = 3 * i + 1 + 1 + 1 + 1 by omega]
      simpa [fcells] using h2
    · rw [show 3 * (i + 1) + 2 = 3 * i + 2 + 1 + 1 + 1 by omega]
      simpa [fcells] using h3

/-- Files at ov, their row in memory from block n₀ on. -/
def Fo [Keep] (n₀ : Nat) (w : World) (ov : Value) (fs : Files) : Prop :=
  ∃ cs, w.ownsRow n₀ 46 3 ov fs.length (fcells fs cs) ∧ Els 0 w (fun k => ov.ownBlock = some k) cs (fs.map Fl.data) ∧ kBase ≤ n₀ ∧ n₀ ≤ w.heap.size

theorem Fo.below [Keep] {n₀ : Nat} {w w' : World} {ov : Value} {fs : Files} (h : Fo n₀ w ov fs) (hb : Below w.heap.size w w') : Fo n₀ w' ov fs := by
  obtain ⟨cs, h1, h2, h3, h4⟩ := h
  exact ⟨cs, ownsRow_below h1 hb, h2.below hb, h3, Nat.le_trans h4 hb.size⟩
theorem Fo.shape [Keep] {n₀ : Nat} {w : World} {ov : Value} {fs : Files} (h : Fo n₀ w ov fs) : ∃ ao cap, ov = .slice ao fs.length cap := by
  obtain ⟨cs, ⟨_, ⟨r1, r2⟩ | ⟨g, cp, _, r1, _⟩⟩, _⟩ := h
  · exact ⟨none, 0, by rw [r1, r2]⟩
  · exact ⟨_, _, r1⟩
theorem Fo.none [Keep] (w : World) (hf : kBase ≤ w.heap.size) : Fo w.heap.size (w.alloc (.cells #[] 46)) (.slice (some ⟨w.heap.size, 0, none⟩) 0 0) [] :=
  ⟨[], World.ownsRow_made w #[] 0 (Nat.le_refl _) (Nat.zero_le _) rfl, Els.nil _ _ _, hf, by simp⟩
theorem Fo.fv [Keep] {n₀ : Nat} {w : World} {ov : Value} {fs : Files} (h : Fo n₀ w ov fs) : Fv w ov fs := by
  obtain ⟨ao, cap, e⟩ := h.shape
  obtain ⟨cs, h2, h4, h5, h6⟩ := h
  refine ⟨Nat.le_trans h5 h6, ao, cap, e, fun i x hx => ?_⟩
  have hi : i < fs.length := (List.getElem?_eq_some_iff.1 hx).1
  obtain ⟨g, cp, e2, _, hc⟩ := row_cell h2 (by omega)
  have hil : i < cs.length := by rw [h4.1, List.length_map]; exact hi
  have hsv := List.getElem?_eq_getElem hil
  obtain ⟨c1, c2, c3⟩ := fcells_get fs cs i x _ hx hsv
  rw [e] at e2
  simp only [Value.slice.injEq] at e2
  rw [Nat.mul_comm] at c1 c2 c3
  exact ⟨g, 0, cs[i], e2.1, hc _ _ c1, by rw [Nat.add_assoc]; exact hc _ _ c2, by rw [Nat.add_assoc]; exact hc _ _ c3, (h4.2 i _ x.data hsv (by simp [hx])).1, kNew g (Nat.le_trans h5 (World.ownsRow.lt h2 g (by rw [e, e2.1]; rfl)).1)⟩

/-- A file as a value. -/
def fval (f : File) (sv : Value) : Value := .agg #[.string f.name, sv, .int .i64 (f.safe : Int)]

set_option maxHeartbeats 1000000 in
theorem run_push_file [Keep] (w : World) (ty : TypeId) (n₀ : Nat) (ov : Value) (fs : Files) (f : File) (sv : Value) (hF : Fo n₀ w ov fs) (hn₀ : n₀ ≤ w.heap.size) (hlen : fs.length ≤ 1000000)
    (hB : Bs w.heap.size w sv f.data) (hk : f.data ≠ [] → ∀ k, sv.ownBlock = some k → k < w.heap.size ∧ ¬ ov.ownBlock = some k) :
    ∃ ov' w', (Builtin.append_ #[22, 22] ty #[ov, .slice (some ⟨w.heap.size, 0, none⟩) 1 1]).run Try.prog (w.alloc (.cells #[.string f.name, sv, .int .i64 (f.safe : Int)] 46)) = .ok ov' w' ∧ Fo n₀ w' ov' (fs ++ [f]) ∧ Below n₀ w w' := by
  obtain ⟨i0, hi, hz0, hz1, hz2⟩ := info_parts infoFile
  have hb1 := (Below.refl w.heap.size w).alloc (Nat.le_refl _) (.cells #[.string f.name, sv, .int .i64 (f.safe : Int)] 46)
  obtain ⟨cs, g2, g4, g5, g6⟩ := hF
  have h2 := ownsRow_below g2 hb1
  have h4 := g4.below hb1
  have hB1 := (hB.below hb1).mono hb1.size
  have hsz := hb1.size
  obtain ⟨ov', w', hrun, hO, hg, hfr⟩ := run_append_own2 (w.alloc (.cells #[.string f.name, sv, .int .i64 (f.safe : Int)] 46)) n₀ 22 ty 46 i0 _ 3 48 Try.underlying22 hi hz0 hz1 hz2 rfl (by decide) ov fs.length (fcells fs cs) h2
    ⟨w.heap.size, 0, none⟩ 1 1 [.string f.name, sv, .int .i64 (f.safe : Int)] rfl (by
      intro j u hj
      rw [Addr.add_lit, cells_of_block (heap_alloc_new w _), Nat.zero_add, ← Array.getElem?_toList]
      exact hj) (by
      intro u hu
      simp only [List.mem_cons, List.not_mem_nil, or_false] at hu
      rcases hu with rfl | rfl | rfl
      · rfl
      · exact hB.one
      · rfl) (by unfold maxLen; omega) (by omega) (Nat.le_trans hn₀ hsz)
  refine ⟨ov', w', hrun, ⟨cs ++ [sv], ?_, ?_, g5, Nat.le_trans g6 (Nat.le_trans hsz hg.size)⟩, ?_⟩
  · rw [List.length_append, fcells_append f sv fs cs (by rw [g4.1, List.length_map])]
    exact hO
  · rw [List.map_append]
    refine (h4.grown hg (fun k e => e) hfr).snoc ((hB1.grown2 hg (fun hne k hk' e => (hk hne k hk').2 e)).mono hg.size) ?_
    intro hne k hk'
    obtain ⟨q2, q3⟩ := hk hne k hk'
    refine ⟨Nat.zero_le _, Nat.lt_of_lt_of_le q2 (Nat.le_trans hsz hg.size), fun hor => ?_⟩
    rcases hfr k hor with hx' | hx'
    · exact q3 hx'
    · omega
  · exact (hb1.mono hn₀).trans ((Below.refl n₀ _).grown hg (Nat.le_trans hn₀ hsz) (fun k hk => (World.ownsRow.lt h2 k hk).1))

/-- append of a file behind one's own. -/
theorem wp_push_file [Keep] {w : World} {ops : Array Oper} {rest : List Oper} {o : Oper} {a : Act} {Q : Exit → Act → World → Prop} (hgd : o.guard = none) (s x : Operand)
    (ho : o.op = .call { callee := .builtin .append, args := #[s, x], argTypes := #[22, 22] })
    (n₀ : Nat) (ov : Value) (fs : Files) (f : File) (sv : Value) (hF : Fo n₀ w ov fs) (hn₀ : n₀ ≤ w.heap.size) (hlen : fs.length ≤ 1000000)
    (hB : Bs w.heap.size w sv f.data) (hk : f.data ≠ [] → ∀ k, sv.ownBlock = some k → k < w.heap.size ∧ ¬ ov.ownBlock = some k)
    (hs : a.eval s = ov) (hx : a.eval x = .slice (some ⟨w.heap.size, 0, none⟩) 1 1)
    (h : ∀ ov' w', Fo n₀ w' ov' (fs ++ [f]) → Below n₀ w w' → wpList Try.prog ops Q rest (a.put o.dst ov') w') : wpList Try.prog ops Q (o :: rest) a (w.alloc (.cells #[.string f.name, sv, .int .i64 (f.safe : Int)] 46)) := by
  obtain ⟨v', w', hrun, r1, r2⟩ := run_push_file w o.type n₀ ov fs f sv hF hn₀ hlen hB hk
  refine wpList_plain hgd fun K hK' => ?_
  unfold Oper.wp
  simp [execOp, ho, resolve, invoke, builtin, hs, hx, hrun, Result.andThen]
  exact hK' _ _ (h v' w' r1 r2)
end Go.Proofs.Ytcnljocgpoaepaa
