/- Items (a kind and bytes) in a row of one's own; the contract of the document's own All. -/
import Derived.Test.YtlminobaohkalaaDoorLists
import Derived.Test.YtlminobaohkalaaDoorRefNext2
namespace Go.Proofs.YtlminobaohkalaaDoor
open Go.RowKit WireMath CrcMath FrameMath
set_option maxRecDepth 100000
set_option linter.unusedSimpArgs false

/-- Items as cells. -/
def icells : List (Nat × List Nat) → List Value → List Value
  | x :: fs, sv :: cs => .int .u8 (x.1 : Int) :: sv :: icells fs cs
  | _, _ => []
theorem icells_append (y : Nat × List Nat) (u : Value) : ∀ (fs : List (Nat × List Nat)) (cs : List Value), cs.length = fs.length → icells (fs ++ [y]) (cs ++ [u]) = icells fs cs ++ [.int .u8 (y.1 : Int), u]
  | [], [], _ => rfl
  | x :: fs, sv :: cs, h => by
    simp only [List.cons_append, icells]
    rw [icells_append y u fs cs (by simpa using h)]
  | [], _ :: _, h => by simp at h
  | _ :: _, [], h => by simp at h
theorem icells_get : ∀ (fs : List (Nat × List Nat)) (cs : List Value) (i : Nat) (x : Nat × List Nat) (sv : Value), fs[i]? = some x → cs[i]? = some sv → (icells fs cs)[2 * i]? = some (.int .u8 (x.1 : Int)) ∧ (icells fs cs)[2 * i + 1]? = some sv
  | [], _, i, x, sv, h, _ => by simp at h
  | _ :: _, [], i, x, sv, _, h => by simp at h
  | y :: fs, u :: cs, 0, x, sv, h, h' => by
    simp only [List.getElem?_cons_zero, Option.some.injEq] at h h'
    subst h h'
    exact ⟨rfl, rfl⟩
  | y :: fs, u :: cs, i + 1, x, sv, h, h' => by
    obtain ⟨h1, h2⟩ := icells_get fs cs i x sv (by simpa using h) (by simpa using h')
    refine ⟨?_, ?_⟩
    · rw [show 2 * (i + 1) = 2 * i + 1 + 1 by omega]
      simpa [icells] using h1
    · rw [show 2 * (i + 1) + 1 = 2 * i + 1 + 1 + 1 by omega]
      simpa [icells] using h2

/-- Items at ov, their row in memory from block n₀ on. -/
def Is (n₀ : Nat) (w : World) (ov : Value) (fs : List (Nat × List Nat)) : Prop :=
  ∃ cs, w.ownsRow n₀ 32 2 ov fs.length (icells fs cs) ∧ Els 0 w (fun k => ov.ownBlock = some k) cs (fs.map Prod.snd)

theorem Is.below {n₀ : Nat} {w w' : World} {ov : Value} {fs : List (Nat × List Nat)} (h : Is n₀ w ov fs) (hb : Below w.heap.size w w') : Is n₀ w' ov fs := by
  obtain ⟨cs, h1, h2⟩ := h
  exact ⟨cs, ownsRow_below h1 hb, h2.below hb⟩
theorem Is.shape {n₀ : Nat} {w : World} {ov : Value} {fs : List (Nat × List Nat)} (h : Is n₀ w ov fs) : ∃ ao cap, ov = .slice ao fs.length cap := by
  obtain ⟨cs, ⟨_, ⟨r1, r2⟩ | ⟨g, cp, _, r1, _⟩⟩, _⟩ := h
  · exact ⟨none, 0, by rw [r1, r2]⟩
  · exact ⟨_, _, r1⟩
theorem Is.none (w : World) : Is w.heap.size (w.alloc (.cells #[] 32)) (.slice (some ⟨w.heap.size, 0, none⟩) 0 0) [] :=
  ⟨[], World.ownsRow_made w #[] 0 (Nat.le_refl _) (Nat.zero_le _) rfl, Els.nil _ _ _⟩

set_option maxHeartbeats 1000000 in
theorem wp_push_item {w : World} {ops : Array Oper} {rest : List Oper} {o : Oper} {a : Act} {Q : Exit → Act → World → Prop} (hgd : o.guard = none) (s x : Operand)
    (ho : o.op = .call { callee := .builtin .append, args := #[s, x], argTypes := #[39, 39] })
    (n₀ : Nat) (ov : Value) (fs : List (Nat × List Nat)) (c : Nat) (sv : Value) (d : List Nat) (hF : Is n₀ w ov fs) (hn₀ : n₀ ≤ w.heap.size) (hlen : fs.length ≤ 1000000)
    (hB : Bs w.heap.size w sv d) (hk : d ≠ [] → ∀ k, sv.ownBlock = some k → k < w.heap.size ∧ ¬ ov.ownBlock = some k)
    (hs : a.eval s = ov) (hx : a.eval x = .slice (some ⟨w.heap.size, 0, none⟩) 1 1)
    (h : ∀ ov' w', Is n₀ w' ov' (fs ++ [(c, d)]) → Below n₀ w w' → wpList Tryd.prog ops Q rest (a.put o.dst ov') w') : wpList Tryd.prog ops Q (o :: rest) a (w.alloc (.cells #[.int .u8 (c : Int), sv] 32)) := by
  obtain ⟨i0, hi, hz0, hz1, hz2⟩ := info_parts infoItem
  have hb1 := (Below.refl w.heap.size w).alloc (Nat.le_refl _) (.cells #[.int .u8 (c : Int), sv] 32)
  obtain ⟨cs, g2, g4⟩ := hF
  have h2 := ownsRow_below g2 hb1
  have h4 := g4.below hb1
  have hB1 := (hB.below hb1).mono hb1.size
  have hsz := hb1.size
  refine wpList_append_own2 hgd s x 39 32 ho n₀ i0 _ 2 32 Tryd.underlying39 hi hz0 hz1 hz2 rfl (by decide) ov fs.length (icells fs cs) hs h2
    ⟨w.heap.size, 0, none⟩ 1 1 [.int .u8 (c : Int), sv] hx rfl ?_ ?_ (by unfold maxLen; omega) (by omega) (Nat.le_trans hn₀ hsz) ?_
  · intro j u hj
    rw [Addr.add_lit, cells_of_block (heap_alloc_new w _), Nat.zero_add, ← Array.getElem?_toList]
    exact hj
  · intro u hu
    simp only [List.mem_cons, List.not_mem_nil, or_false] at hu
    rcases hu with rfl | rfl
    · rfl
    · exact hB.one
  intro ov' w' hO hg hfr
  have hbar : ∀ k, ov'.ownBlock = some k → ov.ownBlock = some k ∨ (w.alloc (.cells #[.int .u8 (c : Int), sv] 32)).heap.size ≤ k := hfr
  refine h ov' w' ⟨cs ++ [sv], ?_, ?_⟩ ?_
  · rw [List.length_append, icells_append (c, d) sv fs cs (by rw [g4.1, List.length_map])]
    exact hO
  · rw [List.map_append]
    refine (h4.grown hg (fun k e => e) hbar).snoc ((hB1.grown2 hg (fun hne k hk' e => (hk hne k hk').2 e)).mono hg.size) ?_
    intro hne k hk'
    obtain ⟨q2, q3⟩ := hk hne k hk'
    refine ⟨Nat.zero_le _, Nat.lt_of_lt_of_le q2 (Nat.le_trans hsz hg.size), fun hor => ?_⟩
    rcases hbar k hor with hx' | hx'
    · exact q3 hx'
    · omega
  · exact (hb1.mono hn₀).trans ((Below.refl n₀ _).grown hg (Nat.le_trans hn₀ hsz) (fun k hk => (World.ownsRow.lt h2 k hk).1))

set_option maxHeartbeats 1000000 in
theorem refAll_of (n₀ : Nat) (l : List Nat) (v : Value) (w : World) (hB : Bs n₀ w v l) (hl : ∀ c ∈ l, c < 256) (hn₀ : n₀ ≤ w.heap.size) (hlen : l.length ≤ 1000000) :
    Calls Tryd.prog 14 #[v] w fun e w' => ∃ ov, e = .returned (.tuple #[ov, .int .i64 ((all l.length l).2.1 : Int), .int .i64 ((all l.length l).2.2 : Int)]) ∧ Is w.heap.size w' ov (all l.length l).1 ∧ Below w.heap.size w w' := by
  obtain ⟨ao, cap, rfl, h2, h3, h4, h5⟩ := id hB
  have hcm : (cap : Int) ≤ 9223372036854775807 := by unfold maxLen at h3; omega
  obtain ⟨R, HR⟩ : ∃ R, Hid (R = all l.length l) := ⟨_, rfl⟩
  rw [← HR.out]
  have hI0 := Is.none w
  have hb0 := (Below.refl w.heap.size w).alloc (Nat.le_refl _) (.cells #[] 32)
  go_enter Tryd.func14, Tryd.ntmps14
  go_wp2
  go_loopg [5, 6] l.length (fun g s5 s6 wr => ∃ (n : Nat) (fs : List (Nat × List Nat)), n ≤ l.length ∧ l.length ≤ n + g ∧ fs.length ≤ n ∧ s6 = .int .i64 (n : Int) ∧ Is w.heap.size wr s5 fs ∧ Below w.heap.size w wr ∧ Hid (R = (fs ++ (all g (l.drop n)).1, n + (all g (l.drop n)).2.1, (all g (l.drop n)).2.2)))
  case atStart => exact ⟨0, [], Nat.zero_le _, by omega, Nat.le_refl _, rfl, hI0, hb0, by show _ = _; rw [HR.out]; simp⟩
  case round =>
    obtain ⟨n, fs, hnl, hng, hfn, rfl, hF, hbel, E⟩ := hrel
    clear HR hI0 hb0
    obtain ⟨ak, ck, rfl⟩ := hF.shape
    by_cases hlt : n < l.length
    · obtain ⟨b, off, rfl, hb, -⟩ := h5 (by rintro rfl; simp at hlt)
      have hlti : (n : Int) < (l.length : Int) := by omega
      have hnc : (n : Int) ≤ (cap : Int) := by omega
      have hne : ¬ cap = n := by omega
      obtain ⟨g', rfl⟩ : ∃ g', gk = g' + 1 := ⟨gk - 1, by omega⟩
      have hBn : Bs n₀ wr (.slice (some ⟨b, off + n, none⟩) (l.length - n) (cap - n)) (l.drop n) := by
        have := (hB.below (hbel.mono hn₀)).cut n (l.length - n) (by omega) (cap - n) (by omega) (by omega)
        rw [List.take_of_length_le (by rw [List.length_drop]; omega)] at this
        exact this
      have hdn : l.drop n ≠ [] := fun h => by
        have := congrArg List.length h
        rw [List.length_drop, List.length_nil] at this
        omega
      have kn := refNext_of n₀ (l.drop n) _ wr hBn (fun c hc => hl c (List.mem_of_mem_drop hc)) (Nat.le_trans hn₀ hbel.size)
      have hfa := @next_ok_facts (l.drop n)
      have hea := @next_err_lt (l.drop n)
      have hok := fun k d s => all_ok g' (l := l.drop n) (k := k) (n := s) (d := d) hdn
      have her := fun e => all_err g' (l := l.drop n) (e := e) hdn
      generalize next (l.drop n) = X at *
      clear hBn hB h5
      cases X with
      | error e0 =>
        have he0 := hea rfl
        have E' : Hid (R = (fs, n, e0)) := by
          show _ = _
          rw [E.out, her e0 rfl]
          simp
        simp only [nrV, nxD] at kn
        have hei : ¬ (e0 : Int) = 0 := by omega
        have hej : ((e0 : Int) != 0) = true := by simp; omega
        clear hok her hfa E hea he0
        go_wp2_with fail
        refine kn.mono ?_
        rintro e w2 ⟨d2, rfl, hD2, -, hb2⟩
        obtain ⟨a2, cap2, rfl, -⟩ := id hD2
        have hF2 := hF.below hb2
        have hbw2 := hbel.trans (hb2.mono hbel.size)
        clear kn hF
        go_wp2
        go_ret3
        have hb3 := (Below.refl w2.heap.size w2).alloc (Nat.le_refl _) (.cells #[.int .u8 0, .slice a2 ([] : List Nat).length cap2] 32)
        rw [E'.out]
        exact ⟨_, rfl, hF2.below hb3, hbw2.trans (hb3.mono hbw2.size)⟩
      | ok xx =>
        obtain ⟨k, d, s⟩ := xx
        obtain ⟨f1, f2, f3, -⟩ := hfa rfl
        rw [List.length_drop] at f2
        have E' : Hid (R = ((fs ++ [(k, d)]) ++ (all g' (l.drop (n + s))).1, (n + s) + (all g' (l.drop (n + s))).2.1, (all g' (l.drop (n + s))).2.2)) := by
          show _ = _
          rw [E.out, hok k d s rfl, List.drop_drop]
          simp [Nat.add_assoc]
        simp only [nrV, nxD] at kn
        have q1 : IntKind.i64.wrap ((n : Int) + (s : Int)) = (n : Int) + (s : Int) := IntWalk.i64_in _ (by omega)
        clear hok her hfa E hea
        go_wp2_with fail
        refine kn.mono ?_
        rintro e w2 ⟨d2, rfl, hD2, hfr2, hb2⟩
        have hF2 := hF.below hb2
        have hbw2 := hbel.trans (hb2.mono hbel.size)
        have hfl : fs.length ≤ 1000000 := by omega
        obtain ⟨a2, cap2, rfl, -⟩ := id hD2
        have hbA := (Below.refl w2.heap.size w2).alloc (Nat.le_refl _) (.cells #[.int .u8 (k : Int), .slice a2 d.length cap2] 32)
        have hszA : (w2.alloc (.cells #[.int .u8 (k : Int), .slice a2 d.length cap2] 32)).heap.size = w2.heap.size + 1 := by simp
        have hFA := hF2.below hbA
        have hDA := (hD2.below hbA).mono hbA.size
        have hbwA := hbw2.trans (hbA.mono hbw2.size)
        have hfrA : ∀ j, (Value.slice a2 d.length cap2).ownBlock = some j → j < (w2.alloc (.cells #[.int .u8 (k : Int), .slice a2 d.length cap2] 32)).heap.size ∧ ¬ (Value.slice ak fs.length ck).ownBlock = some j := fun j hj => by
          obtain ⟨r1, r2⟩ := hfr2 j hj
          refine ⟨by omega, fun hor => ?_⟩
          obtain ⟨cs, s1, _⟩ := hF
          have := (World.ownsRow.lt s1 j hor).2
          omega
        clear kn hF hF2 hfr2 hD2
        go_wp2_with (at_builtin; refine wp_push_item rfl _ _ rfl w.heap.size _ fs k _ d hFA hbwA.size hfl hDA (fun _ => hfrA) rfl (by rw [hszA]; rfl) ?_)
        intro ov3 w3 hF3 hb3
        go_wp2
        go_roundg g'
        case measure => omega
        case rel => exact ⟨n + s, fs ++ [(k, d)], by omega, by omega, by simp; omega, by go_num, hF3, hbwA.trans hb3, E'⟩
    · have hlti : ¬ (n : Int) < (l.length : Int) := by omega
      have E' : Hid (R = (fs, n, 0)) := by
        show _ = _
        rw [E.out, List.drop_eq_nil_of_le (by omega), all_nil]
        simp
      clear E hB h5
      go_wp2
      go_ret3
      rw [E'.out]
      exact ⟨_, rfl, hF, hbel⟩
end Go.Proofs.YtlminobaohkalaaDoor
