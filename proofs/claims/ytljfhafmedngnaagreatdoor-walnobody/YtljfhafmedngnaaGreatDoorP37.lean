import Derived.Test.YtljfhafmedngnaaGreatDoorP36
/- The program's New, Read and Files. -/
namespace Go.Proofs.YtljfhafmedngnaaGreatDoor
open Go.RowKit DiskMath
set_option maxRecDepth 100000
set_option linter.unusedSimpArgs false
set_option linter.unusedVariables false

/-- What New leaves: a disk without files, all new. -/
def NewT (w : World) (e : Ending) (w' : World) : Prop :=
  ∃ S d, e = .returned d ∧ Dk S w' d [] ∧ (∀ b, S b → w.heap.size ≤ b) ∧ Below w.heap.size w w'
theorem new_disk (w : World) : NewT w (.returned (.pointer (some ⟨w.heap.size + 1, 0, none⟩))) ((w.alloc (.map #[] 0)).alloc (.cells #[.map (some w.heap.size)] 62)) := by
  have hb1 := (Below.refl w.heap.size w).alloc (Nat.le_refl _) (.map #[] 0)
  have hb2 := (Below.refl _ (w.alloc (.map #[] 0))).alloc (Nat.le_refl _) (.cells #[.map (some w.heap.size)] 62)
  have hs1 : (w.alloc (.map #[] 0)).heap.size = w.heap.size + 1 := by simp
  have hs2 : ((w.alloc (.map #[] 0)).alloc (.cells #[.map (some w.heap.size)] 62)).heap.size = w.heap.size + 2 := by simp
  have hq := heap_alloc_new (w.alloc (.map #[] 0)) (.cells #[.map (some w.heap.size)] 62)
  rw [hs1] at hq
  let ρ : Mark := fun b => if b = w.heap.size + 1 then (1, noName) else if b = w.heap.size then (2, noName) else (0, noName)
  refine ⟨fun b => (ρ b).1 ≠ 0, _, rfl, ⟨ρ, fun _ => none, w.heap.size + 1, w.heap.size, rfl, fun b => Iff.rfl, hq, (Mp.made w).below hb2, ?_, ?_, ?_, ⟨trivial, by simp, by simp⟩, by simp, fun _ _ => rfl, fun n f hf => by simp [get_nil] at hf⟩, ?_, hb1.trans (hb2.mono (by simp))⟩
  · show (if w.heap.size + 1 = w.heap.size + 1 then _ else _) = _
    rw [if_pos rfl]
  · show (if w.heap.size = w.heap.size + 1 then _ else _) = _
    rw [if_neg (by omega), if_pos rfl]
  · intro b hb
    rw [hs2]
    by_cases h1 : b = w.heap.size + 1
    · omega
    · by_cases h2 : b = w.heap.size
      · omega
      · exact absurd (by show (ρ b).1 = 0; simp only [ρ]; rw [if_neg h1, if_neg h2]) hb
  · intro b hb
    by_cases h1 : b = w.heap.size + 1
    · omega
    · by_cases h2 : b = w.heap.size
      · omega
      · exact absurd (by show (ρ b).1 = 0; simp only [ρ]; rw [if_neg h1, if_neg h2]) hb

set_option maxHeartbeats 1000000 in
theorem dnew_of (w : World) : Calls Tryz.prog 7 #[] w (NewT w) := by
  have E : Hid (NewT w (.returned (.pointer (some ⟨w.heap.size + 1, 0, none⟩))) ((w.alloc (.map #[] 0)).alloc (.cells #[.map (some w.heap.size)] 62))) := new_disk w
  have hmk : (Instr.makeMap 60 none).run Tryz.prog w = .ok (.map (some w.heap.size)) (w.alloc (.map #[] 0)) := rfl
  generalize NewT w = T at *
  go_enter Tryz.func7, Tryz.ntmps7
  go_wp2 <;> first | exact E.out | (go_ret; exact E.out)

/-- What Read tells: bytes of its own. -/
def ReadT (w : World) (fs : Files) (n : ByteArray) (e : Ending) (w' : World) : Prop :=
  ∃ v l, e = .returned (.tuple #[v, .bool (get fs n).isSome]) ∧ Own w.heap.size w' v l ∧ Below w.heap.size w w' ∧ l = ((get fs n).map Fl.data).getD []

set_option maxHeartbeats 1000000 in
theorem dread_of {S : Nat → Prop} {w : World} {d : Value} {fs : Files} (n : ByteArray) (hn : n.size ≤ maxLen) (h : Dk S w d fs) : Calls Tryz.prog 64 #[d, .string n] w (ReadT w fs n) := by
  obtain ⟨ρ, M, q, m, rfl, hS, hD⟩ := h
  have hfd := find_of n hD hn
  cases hg : get fs n with
  | none =>
    have hm := hD.no n hg
    have E : Hid (ReadT w fs n (.returned (.tuple #[.slice none 0 0, .bool false])) w) := by
      unfold Hid ReadT
      rw [hg]
      exact ⟨_, [], rfl, Own.nil _ _, Below.refl _ _, rfl⟩
    unfold FindT at hfd
    rw [hm] at hfd
    generalize ReadT w fs n = T at *
    clear hD
    go_enter Tryz.func64, Tryz.ntmps64
    go_wp2_with fail
    refine hfd.mono ?_
    rintro e w1 ⟨rfl, hw1⟩
    rw [hw1]
    clear hw1 w1 hfd
    go_wp2 <;> first | exact E.out | (go_ret2; exact E.out)
  | some f =>
    obtain ⟨p, v, hm, hF⟩ := hD.yes n f hg
    have hs := sound_get hD.sound hg
    letI := keepAll
    have hB : Bs w.heap.size w v f.data := hF.own.bs (Nat.zero_le _)
    have hcl := clone_of w.heap.size f.data v w hB (Nat.le_refl _) (by omega)
    have hvs : ∃ ao cap, v = .slice ao f.data.length cap := hF.own.shape
    obtain ⟨ao, cap, rfl⟩ := hvs
    have c0 : w.cell? ⟨p, 0, none⟩ = some (.slice ao f.data.length cap) := by rw [cells_of_block hF.block]; rfl
    have E : ∀ v' w', Own w.heap.size w' v' f.data → Below w.heap.size w w' → Hid (ReadT w fs n (.returned (.tuple #[v', .bool true])) w') := by
      intro v' w' hO' hb'
      unfold Hid ReadT
      rw [hg]
      exact ⟨_, _, rfl, hO', hb', rfl⟩
    unfold FindT at hfd
    rw [hm] at hfd
    generalize ReadT w fs n = T at *
    clear hD hF hB
    go_enter Tryz.func64, Tryz.ntmps64
    go_wp2_with fail
    refine hfd.mono ?_
    rintro e w1 ⟨rfl, hw1⟩
    rw [hw1]
    clear hw1 w1 hfd
    go_wp2_with fail
    refine hcl.mono ?_
    rintro e w1 ⟨v', rfl, hO', hb'⟩
    have hE := E v' w1 hO' hb'
    clear E hO' hcl
    go_wp2 <;> first | exact hE.out | (go_ret2; exact hE.out)

/-- Files of one's own: their row, and each one's bytes. -/
def Fw (n₀ : Nat) (w : World) (ov : Value) (fs : Files) : Prop :=
  ∃ cs, w.ownsRow n₀ 54 3 ov fs.length (fcells fs cs) ∧ cs.length = fs.length ∧ n₀ ≤ w.heap.size ∧ ∀ (i : Nat) (sv : Value) (f : File), cs[i]? = some sv → fs[i]? = some f → Own n₀ w sv f.data ∧ ∀ k, sv.ownBlock = some k → ov.ownBlock ≠ some k

theorem Own.lt {n₀ : Nat} {w : World} {v : Value} {l : List Nat} (h : Own n₀ w v l) {k : Nat} (hk : v.ownBlock = some k) : n₀ ≤ k ∧ k < w.heap.size := World.ownsRow.lt h k hk
theorem Own.one {n₀ : Nat} {w : World} {v : Value} {l : List Nat} (h : Own n₀ w v l) : v.oneCell' = true := by
  obtain ⟨ao, cap, rfl⟩ := h.shape
  rfl
theorem Fw.below {n₀ : Nat} {w w' : World} {ov : Value} {fs : Files} (h : Fw n₀ w ov fs) (hb : Below w.heap.size w w') : Fw n₀ w' ov fs := by
  obtain ⟨cs, h1, h2, h3, h4⟩ := h
  exact ⟨cs, ownsRow_below h1 hb, h2, Nat.le_trans h3 hb.size, fun i sv f hi hf => ⟨(h4 i sv f hi hf).1.below hb, (h4 i sv f hi hf).2⟩⟩
theorem Fw.nil (n₀ : Nat) (w : World) (h : n₀ ≤ w.heap.size) : Fw n₀ w (.slice none 0 0) [] := ⟨[], World.ownsRow_nil w n₀ _ 3, rfl, h, fun i sv f hi => by simp at hi⟩
theorem Fw.fo [Keep] {n₀ : Nat} {w : World} {ov : Value} {fs : Files} (h : Fw n₀ w ov fs) (hf : kBase ≤ n₀) : Fo n₀ w ov fs := by
  obtain ⟨cs, h1, h2, h3, h4⟩ := h
  refine ⟨cs, h1, ⟨by rw [h2, List.length_map], fun i sv d hi hd => ?_⟩, hf, h3⟩
  rw [List.getElem?_map] at hd
  obtain ⟨f, hff, rfl⟩ := Option.map_eq_some_iff.1 hd
  obtain ⟨g1, g2⟩ := h4 i sv f hi hff
  exact ⟨g1.bs hf, fun _ k hk => ⟨Nat.zero_le _, (g1.lt hk).2, g2 k hk⟩⟩
theorem Fw.shape {n₀ : Nat} {w : World} {ov : Value} {fs : Files} (h : Fw n₀ w ov fs) : ∃ ao cap, ov = .slice ao fs.length cap := by
  obtain ⟨cs, ⟨_, ⟨r1, r2⟩ | ⟨g, cp, _, r1, _⟩⟩, _⟩ := h
  · exact ⟨none, 0, by rw [r1, r2]⟩
  · exact ⟨_, _, r1⟩

set_option maxHeartbeats 1000000 in
theorem run_push_own (w : World) (ty : TypeId) (n₀ : Nat) (ov : Value) (fs : Files) (f : File) (sv : Value) (hF : Fw n₀ w ov fs) (hlen : fs.length ≤ 1000000)
    (hO : Own n₀ w sv f.data) (hk : ∀ k, sv.ownBlock = some k → ov.ownBlock ≠ some k) :
    ∃ ov' w', (Builtin.append_ #[29, 29] ty #[ov, .slice (some ⟨w.heap.size, 0, none⟩) 1 1]).run Tryz.prog (w.alloc (.cells #[.string f.name, sv, .int .i64 (f.safe : Int)] 54)) = .ok ov' w' ∧ Fw n₀ w' ov' (fs ++ [f]) ∧ Below n₀ w w' := by
  obtain ⟨i0, hi, hz0, hz1, hz2⟩ := info_parts infoFile
  have hb1 := (Below.refl w.heap.size w).alloc (Nat.le_refl _) (.cells #[.string f.name, sv, .int .i64 (f.safe : Int)] 54)
  obtain ⟨cs, g2, g3, hn₀, g4⟩ := hF
  have h2 := ownsRow_below g2 hb1
  have hsz := hb1.size
  obtain ⟨ov', w', hrun, hR, hg, hfr⟩ := run_append_own2 (w.alloc (.cells #[.string f.name, sv, .int .i64 (f.safe : Int)] 54)) n₀ 29 ty 54 i0 _ 3 48 Tryz.underlying29 hi hz0 hz1 hz2 rfl (by decide) ov fs.length (fcells fs cs) h2
    ⟨w.heap.size, 0, none⟩ 1 1 [.string f.name, sv, .int .i64 (f.safe : Int)] rfl (by
      intro j u hj
      rw [Addr.add_lit, cells_of_block (heap_alloc_new w _), Nat.zero_add, ← Array.getElem?_toList]
      exact hj) (by
      intro u hu
      simp only [List.mem_cons, List.not_mem_nil, or_false] at hu
      rcases hu with rfl | rfl | rfl
      · rfl
      · exact hO.one
      · rfl) (by unfold maxLen; omega) (by omega) (Nat.le_trans hn₀ hsz)
  have hmove : ∀ u d, Own n₀ w u d → (∀ k, u.ownBlock = some k → ov.ownBlock ≠ some k) → Own n₀ w' u d ∧ ∀ k, u.ownBlock = some k → ov'.ownBlock ≠ some k := by
    intro u d hu hu2
    refine ⟨(hu.below hb1).same fun k hk' => hg.block k (Nat.lt_of_lt_of_le (hu.lt hk').2 hsz) (fun e => hu2 k hk' e.symm), fun k hk' e => ?_⟩
    rcases hfr k e with h | h
    · exact hu2 k hk' h
    · have := (hu.lt hk').2; omega
  refine ⟨ov', w', hrun, ⟨cs ++ [sv], ?_, by simp [g3], Nat.le_trans hn₀ (Nat.le_trans hsz hg.size), ?_⟩, ?_⟩
  · rw [List.length_append, fcells_append f sv fs cs g3]
    exact hR
  · intro i u g hi' hg'
    by_cases hil : i < cs.length
    · rw [List.getElem?_append_left hil] at hi'
      rw [List.getElem?_append_left (by omega)] at hg'
      obtain ⟨q1, q2⟩ := g4 i u g hi' hg'
      exact hmove u g.data q1 q2
    · have hie : i = cs.length := by
        have := (List.getElem?_eq_some_iff.1 hi').1
        simp at this
        omega
      subst hie
      rw [List.getElem?_append_right (Nat.le_refl _), Nat.sub_self] at hi'
      rw [g3, List.getElem?_append_right (Nat.le_refl _), Nat.sub_self] at hg'
      simp only [List.getElem?_cons_zero, Option.some.injEq] at hi' hg'
      subst hi' hg'
      exact hmove _ _ hO hk
  · exact (hb1.mono hn₀).trans ((Below.refl n₀ _).grown hg (Nat.le_trans hn₀ hsz) (fun k hk => (World.ownsRow.lt h2 k hk).1))

/-- append of a file, as one step of a region that draws its order. -/
theorem step_push_own {ops : Array Oper} {o : Oper} {a : Act} {w : World} {K : Act → World → Prop} {Q : Exit → Act → World → Prop} {E : Prop}
    (hg : o.guard = none) (s x : Operand) (ho : o.op = .call { callee := .builtin .append, args := #[s, x], argTypes := #[29, 29] })
    (n₀ : Nat) (ov : Value) (fs : Files) (f : File) (sv : Value) (hF : Fw n₀ w ov fs) (hlen : fs.length ≤ 1000000) (hO : Own n₀ w sv f.data) (hk : ∀ k, sv.ownBlock = some k → ov.ownBlock ≠ some k)
    (hs : a.eval s = ov) (hx : a.eval x = .slice (some ⟨w.heap.size, 0, none⟩) 1 1)
    (hK : ∀ ov' w', Fw n₀ w' ov' (fs ++ [f]) → Below n₀ w w' → K (a.put o.dst ov') w') :
    if Region.wanted o (yielded ops a.tmps) = true then Oper.wp Tryz.prog o a (w.alloc (.cells #[.string f.name, sv, .int .i64 (f.safe : Int)] 54)) K Q else E := by
  have hw : Region.wanted o (yielded ops a.tmps) = true := by simp [Region.wanted, hg]
  rw [if_pos hw]
  obtain ⟨v', w', hrun, r1, r2⟩ := run_push_own w o.type n₀ ov fs f sv hF hlen hO hk
  unfold Oper.wp
  simp [execOp, ho, resolve, invoke, builtin, hs, hx, hrun, Result.andThen]
  exact hK v' w' r1 r2
end Go.Proofs.YtljfhafmedngnaaGreatDoor

