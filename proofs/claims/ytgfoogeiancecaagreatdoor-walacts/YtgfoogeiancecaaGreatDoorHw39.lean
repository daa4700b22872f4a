import Derived.Test.YtgfoogeiancecaaGreatDoorHw13
import Derived.Test.YtgfoogeiancecaaGreatDoorHw38
import Derived.Deep.RegionHeld
import Derived.Deep.RegionHeld3
/- The contracts of the document's own value, open and Next: the frame at the beginning of bytes as the program finds it; what lay in memory before stays as it was. -/
namespace Go.Proofs.YtgfoogeiancecaaGreatDoor.Fr
open Go.RowKit WireMath CrcMath FrameMath
set_option maxRecDepth 100000
set_option linter.unusedSimpArgs false

set_option maxHeartbeats 2000000 in
theorem value_of (n₀ : Nat) (l : List Nat) (v : Value) (w : World) (hB : Bs n₀ w v l) (hl : ∀ c ∈ l, c < 256) (hn₀ : n₀ ≤ w.heap.size) :
    Calls Tryz.prog 108 #[v] w fun e w' => e = .returned (.tuple #[.int .u64 (((rd 10 0 0 l).getD (0, 0)).1 : Int), .bool (decide (uv ((rd 10 0 0 l).getD (0, 0)).1 = l))]) ∧ Below w.heap.size w w' := by
  have hb1 := (Below.refl w.heap.size w).alloc (Nat.le_refl _) (.cells #[v, .int .i64 0, .int .i64 0] 150)
  have hB1 := hB.below (hb1.mono hn₀)
  have hR : Rr n₀ (w.alloc (.cells #[v, .int .i64 0, .int .i64 0] 150)) w.heap.size l 0 0 := ⟨v, heap_alloc_new w _, hB1, Nat.zero_le _, hn₀⟩
  have hu := ruv_of n₀ w.heap.size l 0 0 _ hR hl
  have hN : uvN l 0 0 = ((rd 10 0 0 l).getD (0, 0)).1 := rfl
  have hNlt := uvN_lt (a := 0) (b := 0) hl
  rw [hN] at hu hNlt
  generalize ((rd 10 0 0 l).getD (0, 0)).1 = N at *
  have hub : ∀ c ∈ uv N, c < 256 := uv_bytes N
  obtain ⟨ao, cap, rfl, -⟩ := id hB
  obtain ⟨B, HB⟩ : ∃ B, Hid (B = decide (uv N = l)) := ⟨_, rfl⟩
  rw [← HB.out]
  clear hR hN
  go_enter Tryz.func108, Tryz.ntmps108
  go_wp2_with fail
  refine hu.mono ?_
  rintro e w2 ⟨rfl, -, hk2⟩
  have hbel2 : Below w.heap.size w w2 := hb1.trans (hk2.below (Nat.le_refl _) hb1.size)
  have hB2 := hB.below (hbel2.mono hn₀)
  clear hu hk2 hB1 hB hb1
  have hd2 : Below w2.heap.size w2 w2.drew := (Below.refl _ _).drew
  have ku := refUvarint_of N w2.drew hNlt
  have hS : ∀ w', Below w2.heap.size w2 w' → (convert 32 9 (.slice ao l.length cap)).run Tryz.prog w' = .ok (.string (str l)) w' := fun w' hb => str_of (hB2.below (hb.mono (Nat.le_trans hn₀ hbel2.size))) hl
  by_cases he : uv N = l
  · have HE : Hid (B = true) := HB.out.trans (decide_eq_true he)
    rw [he] at ku hub
    clear he HB
    go_wp2
    go_region_held (fun w' => (convert 32 9 (.slice ao l.length cap)).run Tryz.prog w' = .ok (.string (str l)) w')
      (first | go_keep | exact x4 | exact hS _ hd2)
      (first | (go_at_call 52; refine ku.mono ?_; rintro e w4 ⟨v4, rfl, hO4, hb4⟩; have hbel4 := hd2.trans hb4; have x4 := hS _ hbel4; have c4 := str_of hO4.bs hl))
    go_wp2
    go_ret2
    exact ⟨by rw [HE.out]; rfl, hbel2.trans (hbel4.mono hbel2.size)⟩
  · have HE : Hid (B = false) := HB.out.trans (decide_eq_false he)
    have hst := str_ne hub hl he
    have hst2 : ¬ (str (uv N)).toList = (str l).toList := fun h => by rw [h] at hst; simp at hst
    clear HB
    generalize uv N = U at *
    go_wp2
    go_region_held (fun w' => (convert 32 9 (.slice ao l.length cap)).run Tryz.prog w' = .ok (.string (str l)) w')
      (first | go_keep | exact x4 | exact hS _ hd2)
      (first | (go_at_call 52; refine ku.mono ?_; rintro e w4 ⟨v4, rfl, hO4, hb4⟩; have hbel4 := hd2.trans hb4; have x4 := hS _ hbel4; have c4 := str_of hO4.bs hub))
    go_wp2
    go_ret2
    exact ⟨by rw [HE.out]; rfl, hbel2.trans (hbel4.mono hbel2.size)⟩

theorem refOpen_of (n₀ : Nat) (l : List Nat) (v : Value) (w : World) (hB : Bs n₀ w v l) :
    Calls Tryz.prog 109 #[v] w fun e w' => e = .returned (.bool (openB l)) ∧ w' = w := by
  obtain ⟨ao, cap, rfl, h2, h3, h4, h5⟩ := id hB
  have hm : l.length ≤ 9223372036854775807 := by unfold maxLen at h3; omega
  by_cases h2l : 2 < l.length
  · have i2 : (2 : Int) < (l.length : Int) := by omega
    have E' : Hid (openB l = false) := by
      show _ = _
      unfold openB
      rw [decide_eq_false (by omega)]
      rfl
    clear hB h5
    go_enter Tryz.func109, Tryz.ntmps109
    go_wp2
    go_ret
    exact ⟨by rw [E'.out]; rfl, rfl⟩
  have i2 : ¬ (2 : Int) < (l.length : Int) := by omega
  have hop : openB l = l.all fun c => decide (128 ≤ c) := by
    unfold openB
    rw [decide_eq_true (by omega), Bool.true_and]
  rw [hop]
  go_enter Tryz.func109, Tryz.ntmps109
  go_wp2
  go_loopg [3] l.length (fun g s3 wr => ∃ i : Nat, i + g = l.length ∧ s3 = .int .i64 (i : Int) ∧ Hid (∀ j c, j < i → l[j]? = some c → 128 ≤ c) ∧ wr = w)
  case atStart => exact ⟨0, by simp, rfl, fun _ _ h => by omega, rfl⟩
  case round =>
    obtain ⟨i, hi, rfl, E, rfl⟩ := hrel
    by_cases hlt : i < l.length
    · obtain ⟨b, off, rfl, hb, hc⟩ := h5 (by rintro rfl; simp at hlt)
      have hg : l[i]? = some l[i] := List.getElem?_eq_getElem hlt
      have hcell := hc i l[i] hg
      have hlti : (i : Int) < (l.length : Int) := by omega
      by_cases h128 : l[i] < 128
      · have E' : Hid ((l.all fun c => decide (128 ≤ c)) = false) := by
          show _ = _
          rw [Bool.eq_false_iff]
          intro h
          have := List.all_eq_true.1 h l[i] (List.getElem_mem hlt)
          simp only [decide_eq_true_eq] at this
          omega
        generalize l[i] = c at hcell h128
        have q : (c : Int) < 128 := by omega
        clear E hc h5 hB hg hop
        go_wp2
        go_ret
        exact ⟨by rw [E'.out]; rfl, rfl⟩
      · have E' : Hid (∀ j c, j < i + 1 → l[j]? = some c → 128 ≤ c) := by
          intro j c hj hjc
          by_cases hji : j = i
          · subst hji
            rw [hg] at hjc
            cases hjc
            omega
          · exact E.out j c (by omega) hjc
        generalize l[i] = c at hcell h128
        have q : ¬ (c : Int) < 128 := by omega
        clear E hc h5 hB hg hop
        go_wp2
        go_roundg (gk - 1)
        case measure => omega
        case rel => exact ⟨i + 1, by omega, by go_num, E', rfl⟩
    · have hlti : ¬ (i : Int) < (l.length : Int) := by omega
      have E' : Hid ((l.all fun c => decide (128 ≤ c)) = true) := by
        show _ = _
        rw [List.all_eq_true]
        intro x hx
        obtain ⟨j, hj, rfl⟩ := List.getElem_of_mem hx
        simpa using E.out j l[j] (by omega) (List.getElem?_eq_getElem hj)
      clear E h5 hB hop
      go_wp2
      go_ret
      exact ⟨by rw [E'.out]; rfl, rfl⟩
end Go.Proofs.YtgfoogeiancecaaGreatDoor.Fr

/- The contract of the document's own Next: the frame at the beginning of bytes as the program finds it; what lay in memory before stays as it was. -/
namespace Go.Proofs.YtgfoogeiancecaaGreatDoor.Fr
open Go.RowKit WireMath CrcMath FrameMath
set_option maxRecDepth 100000
set_option linter.unusedSimpArgs false

/-- append of a whole slice behind one's own, as one step of a region that draws its order. -/
theorem step_append_bs {ops : Array Oper} {o : Oper} {a : Act} {w : World} {K : Act → World → Prop} {Q : Exit → Act → World → Prop} {E : Prop}
    (hg : o.guard = none) (s x : Operand) (ho : o.op = .call { callee := .builtin .append, args := #[s, x], argTypes := #[32, 32] })
    (n₀ : Nat) (v : Value) (l : List Nat) (hs : a.eval s = v) (hown : Own n₀ w v l) (hn₀ : n₀ ≤ w.heap.size)
    (n₁ : Nat) (xv : Value) (r : List Nat) (hx : a.eval x = xv) (hB : Bs n₁ w xv r) (hlen : l.length + r.length ≤ 140737488355328)
    (hK : ∀ v' w', Own n₀ w' v' (l ++ r) → Below n₀ w w' → K (a.put o.dst v') w') :
    if Region.wanted o (yielded ops a.tmps) = true then Oper.wp Tryz.prog o a w K Q else E := by
  have hw : Region.wanted o (yielded ops a.tmps) = true := by simp [Region.wanted, hg]
  rw [if_pos hw]
  obtain ⟨v', w', hrun, r1, r2, _, _⟩ := run_append_bs w o.type n₀ v l hown hn₀ n₁ xv r hB hlen
  unfold Oper.wp
  simp [execOp, ho, resolve, invoke, builtin, hs, hx, hrun, Result.andThen]
  exact hK v' w' r1 r2

/-- What the document's own Next tells, the bytes at v. -/
def nrV (x : Nx) (v : Value) : Value :=
  match x with
  | .ok (k, _, n) => .tuple #[.agg #[.int .u8 (k : Int), v], .int .i64 (n : Int), .int .i64 0]
  | .error e => .tuple #[.agg #[.int .u8 0, v], .int .i64 0, .int .i64 (e : Int)]

theorem rd_last {l : List Nat} (hl : ∀ c ∈ l, c < 256) {n : Nat} (hn : ¬ (n ≤ l.length ∧ n ≤ 10)) (H : ∀ j N, j < n → rd 10 0 0 l ≠ some (N, j)) : rd 10 0 0 l = none := by
  cases hr : rd 10 0 0 l with
  | none => rfl
  | some x =>
    obtain ⟨_, h2, h3, h4⟩ := rd_parts (n := x.1) (k := x.2) hl hr
    exact absurd hr (H x.2 x.1 (by omega))

theorem results_item {fn : Func} {p u x : Tmp} (h : fn.results = #[.cell p 145, .tmp u, .tmp x]) (tmps : Array Value) (w : World) (g : Nat) (a b : Value)
    (hp : tmps.getD p undef = .pointer (some ⟨g, 0, none⟩)) (hg : w.heap[g]? = some (.cells #[a, b] 145 (0, 0))) :
    (results fn tmps).run Tryz.prog w = .ok (.tuple #[.agg #[a, b], tmps.getD u undef, tmps.getD x undef]) w := by
  have hp' : tmps[p]?.getD undef = .pointer (some ⟨g, 0, none⟩) := by simpa using hp
  simp [results, h, hp', asAddr, run_loadVar_row w g 145 145 #[a, b] (0, 0) _ hg Tryz.underlying145 rfl (by kernel_rfl)]

theorem item_set {w : World} {g : Nat} {a b : Value} {t : TypeId} (h : w.heap[g]? = some (.cells #[a, b] t (0, 0))) (x y : Value) : ((w.setCell ⟨g, 0, none⟩ x).setCell ⟨g, 1, none⟩ y).heap[g]? = some (.cells #[x, y] t (0, 0)) := by
  simp [World.setCell, Array.getElem?_modify, h]

/-- The document's own Next where there is no frame: its way out. -/
theorem item_none (e : Nat) (X : Nx) (hX : X = .error e) (n : Nat) (w wr : World) (hb : Below n w wr) :
    ∃ v', Ending.returned (.tuple #[.agg #[.int .u8 0, .slice none 0 0], .int .i64 0, .int .i64 (e : Int)]) = .returned (nrV X v') ∧ Bs ((wr.setCell ⟨n, 0, none⟩ (.int .u8 0)).setCell ⟨n, 1, none⟩ (.slice none 0 0)).heap.size ((wr.setCell ⟨n, 0, none⟩ (.int .u8 0)).setCell ⟨n, 1, none⟩ (.slice none 0 0)) v' (nxD X) ∧
      (∀ j, v'.ownBlock = some j → n ≤ j ∧ j < ((wr.setCell ⟨n, 0, none⟩ (.int .u8 0)).setCell ⟨n, 1, none⟩ (.slice none 0 0)).heap.size) ∧ Below n w ((wr.setCell ⟨n, 0, none⟩ (.int .u8 0)).setCell ⟨n, 1, none⟩ (.slice none 0 0)) := by
  subst hX
  exact ⟨.slice none 0 0, rfl, Bs.nil _ _, (fun j hj => by cases hj), (hb.setCell (p := ⟨n, 0, none⟩) (Nat.le_refl _) _).setCell (p := ⟨n, 1, none⟩) (Nat.le_refl _) _⟩

/-- The document's own Next where there is a frame: its way out. -/
theorem item_some (k m : Nat) (d : List Nat) (X : Nx) (hX : X = .ok (k, d, m)) (n n6 : Nat) (w w6 : World) (v6 : Value) (hO : Own n6 w6 v6 d) (h6 : n < n6) (hb : Below n w w6) (z : Int) (hz : z = (m : Int)) :
    ∃ v', Ending.returned (.tuple #[.agg #[.int .u8 (k : Int), v6], .int .i64 z, .int .i64 0]) = .returned (nrV X v') ∧ Bs ((w6.setCell ⟨n, 0, none⟩ (.int .u8 (k : Int))).setCell ⟨n, 1, none⟩ v6).heap.size ((w6.setCell ⟨n, 0, none⟩ (.int .u8 (k : Int))).setCell ⟨n, 1, none⟩ v6) v' (nxD X) ∧
      (∀ j, v'.ownBlock = some j → n ≤ j ∧ j < ((w6.setCell ⟨n, 0, none⟩ (.int .u8 (k : Int))).setCell ⟨n, 1, none⟩ v6).heap.size) ∧ Below n w ((w6.setCell ⟨n, 0, none⟩ (.int .u8 (k : Int))).setCell ⟨n, 1, none⟩ v6) := by
  subst hX hz
  have hsz : ((w6.setCell ⟨n, 0, none⟩ (.int .u8 (k : Int))).setCell ⟨n, 1, none⟩ v6).heap.size = w6.heap.size := by simp [World.setCell]
  refine ⟨v6, rfl, ?_, fun j hj => ?_, (hb.setCell (p := ⟨n, 0, none⟩) (Nat.le_refl _) _).setCell (p := ⟨n, 1, none⟩) (Nat.le_refl _) _⟩
  · rw [hsz]
    refine hO.bs.grown (row := some n) ((Kp.set n 0 _ w6).trans (Kp.set n 1 _ _)) (fun g hg e => ?_)
    have := (World.ownsRow.lt hO g hg).1
    cases e
    omega
  · rw [hsz]
    have := World.ownsRow.lt hO j hj
    omega

set_option maxHeartbeats 4000000 in
theorem refNext_of (n₀ : Nat) (l : List Nat) (v : Value) (w : World) (hB : Bs n₀ w v l) (hl : ∀ c ∈ l, c < 256) (hn₀ : n₀ ≤ w.heap.size) :
    Calls Tryz.prog 89 #[v] w fun e' w' => ∃ v', e' = .returned (nrV (next l) v') ∧ Bs w'.heap.size w' v' (nxD (next l)) ∧ (∀ j, v'.ownBlock = some j → w.heap.size ≤ j ∧ j < w'.heap.size) ∧ Below w.heap.size w w' := by
  obtain ⟨ao, cap, rfl, h2, h3, h4, h5⟩ := id hB
  have hm : l.length ≤ 9223372036854775807 := by unfold maxLen at h3; omega
  have hcap : (cap : Int) ≤ 9223372036854775807 := by unfold maxLen at h3; omega
  have hb0 := (Below.refl w.heap.size w).alloc (Nat.le_refl _) (.cells #[.int .u8 0, .slice none 0 0] 145)
  have hbk0 := heap_alloc_new w (.cells #[.int .u8 0, .slice none 0 0] 145)
  have hsz0 : (w.alloc (.cells #[.int .u8 0, .slice none 0 0] 145)).heap.size = w.heap.size + 1 := by simp
  obtain ⟨X, HX⟩ : ∃ X, Hid (X = next l) := ⟨_, rfl⟩
  rw [← HX.out]
  go_enter Tryz.func89, Tryz.ntmps89
  go_wp2
  generalize w.alloc (.cells #[.int .u8 0, .slice none 0 0] 145) = w0 at *
  go_loopg [5] 10 (fun g s5 wr => ∃ n : Nat, n + g = 11 ∧ 0 < n ∧ s5 = .int .i64 (n : Int) ∧ Hid (∀ j N, j < n → rd 10 0 0 l ≠ some (N, j)) ∧ Below (w.heap.size + 1) w0 wr)
  case atStart => exact ⟨1, by omega, by omega, rfl, fun j N hj h => by have := (rd_parts hl h).2.1; omega, Below.refl _ _⟩
  case round =>
    obtain ⟨n, hn, hn0, rfl, H, hbel⟩ := hrel
    have hblk := (hbel.block w.heap.size (Nat.lt_succ_self _)).trans hbk0
    have hbw : Below w.heap.size w wr := hb0.trans (hbel.mono (Nat.le_succ _))
    have hBr := hB.below (hbw.mono hn₀)
    have hsz := hbw.size
    have hsz1 : w.heap.size + 1 ≤ wr.heap.size := by
      have := hbel.size
      omega
    have c0 : wr.cell? ⟨w.heap.size, 0, none⟩ = some (.int .u8 0) := by rw [cells_of_block hblk]; rfl
    have c1 : wr.cell? ⟨w.heap.size, 1, none⟩ = some (.slice none 0 0) := by rw [cells_of_block hblk]; rfl
    have f0 := frozen_of hblk 0
    have f1 := frozen_of hblk 1
    by_cases hgo : n ≤ l.length ∧ n ≤ 10
    · have hgo1 : (n : Int) ≤ (l.length : Int) := by omega
      have hgo2 : (n : Int) ≤ 10 := by omega
      have hnc : (n : Int) ≤ (cap : Int) := by omega
      have hnc2 : n ≤ cap := by omega
      have hBt := Bs.took hBr hgo.1
      have kv := value_of n₀ (l.take n) _ wr hBt (fun c hc => hl c (List.mem_of_mem_take hc)) (by omega)
      have hiff := value_iff hl hgo.1
      have hback : ∀ N, rd 10 0 0 l = some (N, n) → uv ((rd 10 0 0 (l.take n)).getD (0, 0)).1 = l.take n := fun N h => by
        obtain ⟨g1, g2⟩ := value_back hl hgo.1 h
        rw [g1]
        exact g2
      generalize ((rd 10 0 0 (l.take n)).getD (0, 0)).1 = N at kv hiff hback
      by_cases hv : uv N = l.take n
      · obtain ⟨N', hr, rfl⟩ := hiff.1 hv
        rw [decide_eq_true hv] at kv
        have hnx : Hid (X = body l N' n) := by show _ = _; rw [HX.out]; unfold next; rw [hr]
        obtain ⟨hNlt, -, -, -⟩ := rd_parts hl hr
        clear hv hiff H hr hBt HX hback
        by_cases hs : N' < 5 ∨ 1048576 < N'
        · have hx : X = .error 5 := hnx.out.trans (body_small hs)
          go_wp2_with fail
          refine kv.mono ?_
          rintro e w2 ⟨rfl, hb2⟩
          have hbw2 : Below w.heap.size w w2 := hbw.trans (hb2.mono hsz)
          have hblk2 := (hb2.block w.heap.size (by omega)).trans hblk
          have d0 : w2.cell? ⟨w.heap.size, 0, none⟩ = some (.int .u8 0) := by rw [cells_of_block hblk2]; rfl
          have d1 : w2.cell? ⟨w.heap.size, 1, none⟩ = some (.slice none 0 0) := by rw [cells_of_block hblk2]; rfl
          have g0 := frozen_of hblk2 0
          have g1 := frozen_of hblk2 1
          have fin : ∀ e, X = .error e → _ := fun e he => item_none e X he w.heap.size w w2 hbw2
          clear c0 c1 f0 f1 kv
          clear hBr hB hbw hbel hnx
          by_cases hs5 : N' < 5
          · have i1 : (N' : Int) < 5 := by omega
            go_wp2
            (try simp only [Exit.inBlock, Exit.then])
            refine bodyPost_ret (results_item rfl _ _ w.heap.size _ _ rfl (item_set hblk2 _ _)) rfl ?_
            exact fin 5 hx
          · have i1 : ¬ (N' : Int) < 5 := by omega
            have i2 : (1048576 : Int) < (N' : Int) := by omega
            go_wp2
            (try simp only [Exit.inBlock, Exit.then])
            refine bodyPost_ret (results_item rfl _ _ w.heap.size _ _ rfl (item_set hblk2 _ _)) rfl ?_
            exact fin 5 hx
        have i1 : ¬ (N' : Int) < 5 := by omega
        have i2 : ¬ (1048576 : Int) < (N' : Int) := by omega
        have hN5 : 5 ≤ N' := by omega
        have hN20 : N' ≤ 1048576 := by omega
        have q1 : IntKind.u64.wrap ((l.length : Int) - (n : Int)) = (l.length : Int) - (n : Int) := by rw [IntKind.wrap_u64]; omega
        by_cases hgap : l.length < n + N'
        · have hx : X = .error 12 := hnx.out.trans (body_gap hN5 hN20 hgap hgo.1)
          have i3 : (l.length : Int) - (n : Int) < (N' : Int) := by omega
          go_wp2_with fail
          refine kv.mono ?_
          rintro e w2 ⟨rfl, hb2⟩
          have hbw2 : Below w.heap.size w w2 := hbw.trans (hb2.mono hsz)
          have hblk2 := (hb2.block w.heap.size (by omega)).trans hblk
          have d0 : w2.cell? ⟨w.heap.size, 0, none⟩ = some (.int .u8 0) := by rw [cells_of_block hblk2]; rfl
          have d1 : w2.cell? ⟨w.heap.size, 1, none⟩ = some (.slice none 0 0) := by rw [cells_of_block hblk2]; rfl
          have g0 := frozen_of hblk2 0
          have g1 := frozen_of hblk2 1
          have fin : ∀ e, X = .error e → _ := fun e he => item_none e X he w.heap.size w w2 hbw2
          clear c0 c1 f0 f1 kv
          clear hBr hB hbw hbel hnx
          go_wp2
          (try simp only [Exit.inBlock, Exit.then])
          refine bodyPost_ret (results_item rfl _ _ w.heap.size _ _ rfl (item_set hblk2 _ _)) rfl ?_
          exact fin 12 hx
        have i3 : ¬ (l.length : Int) - (n : Int) < (N' : Int) := by omega
        obtain ⟨bb, off, rfl, -⟩ := h5 (by rintro rfl; simp at hgo1; omega)
        have hcn : n + N' ≤ cap := by omega
        have j1 : (n : Int) ≤ (n : Int) + (N' : Int) := by omega
        have j2 : (n : Int) + (N' : Int) ≤ (cap : Int) := by omega
        have j3 : ((n : Int) + (N' : Int)).toNat = n + N' := by omega
        have j4 : ¬ cap = n := by omega
        have j5 : (4 : Int) ≤ (N' : Int) := by omega
        have j6 : 4 ≤ N' := by omega
        have j7 : ¬ cap - n = 4 := by omega
        have q2 : IntKind.i64.wrap ((n : Int) + (N' : Int)) = (n : Int) + (N' : Int) := IntWalk.i64_in _ (by omega)
        have hcutl : ((l.drop n).take N').length = N' := by rw [List.length_take, List.length_drop]; omega
        have hcutb : ∀ c ∈ (l.drop n).take N', c < 256 := fun c hc => hl c (List.mem_of_mem_drop (List.mem_of_mem_take hc))
        have hBody : ∀ w', Below w.heap.size w w' → Bs n₀ w' (.slice (some ⟨bb, off + n, none⟩) N' (cap - n)) ((l.drop n).take N') := fun w' hb => (hB.below (hb.mono hn₀)).cut n N' (by omega) (cap - n) (by omega) (by omega)
        have hbt := hnx.out
        have hbt1 : sealed (((l.drop n).take N').drop 4) = (l.drop n).take N' → X = .ok ((((l.drop n).take N')[4]?.getD 0), (((l.drop n).take N').drop 5), (n + N')) := fun h => hbt.trans (body_ok hN5 hN20 (by omega) (sealed_iff.1 h))
        have hbt2 : ¬ sealed (((l.drop n).take N').drop 4) = (l.drop n).take N' → X = .error 5 := fun h => hbt.trans (body_text hN5 hN20 (by omega) (fun h2 => h (sealed_iff.2 h2)))
        clear hnx hbt
        generalize (l.drop n).take N' = BB at *
        have hBody4 : ∀ w', Below w.heap.size w w' → Bs n₀ w' (.slice (some ⟨bb, off + n + 4, none⟩) (N' - 4) (cap - n - 4)) (BB.drop 4) := fun w' hb => by
          have := (hBody w' hb).cut 4 (N' - 4) (by omega) (cap - n - 4) (by omega) (by omega)
          rw [List.take_of_length_le (by rw [List.length_drop]; omega)] at this
          exact this
        have hb4b : ∀ c ∈ BB.drop 4, c < 256 := fun c hc => hcutb c (List.mem_of_mem_drop hc)
        have k4 : ∀ w', Below w.heap.size w w' → Calls Tryz.prog 78 #[.slice (some ⟨bb, off + n + 4, none⟩) (N' - 4) (cap - n - 4)] w' fun e w'' => ∃ v', e = .returned v' ∧ Own w'.heap.size w'' v' (sealed (BB.drop 4)) ∧ Below w'.heap.size w' w'' := fun w' hb => refSeal_of n₀ _ _ w' (hBody4 w' hb) hb4b (Nat.le_trans hn₀ hb.size) (by rw [List.length_drop]; omega)
        have hslb := sealed_lt hb4b
        clear hBody4 h5 h4
        by_cases hsl : sealed (BB.drop 4) = BB
        · have hx := hbt1 hsl
          rw [hsl] at k4
          clear hbt1 hbt2 hslb
          go_wp2_with fail
          refine kv.mono ?_
          rintro e w2 ⟨rfl, hb2⟩
          have hbw2 : Below w.heap.size w w2 := hbw.trans (hb2.mono hsz)
          clear c0 c1 f0 f1 kv
          have hd2 : Below w2.heap.size w2 w2.drew := (Below.refl _ _).drew
          have k42 := k4 w2.drew hbw2.drew
          have hS : ∀ w', Below w2.heap.size w2 w' → (convert 32 9 (.slice (some ⟨bb, off + n, none⟩) N' (cap - n))).run Tryz.prog w' = .ok (.string (str BB)) w' := fun w' hb => str_of (hBody w' (hbw2.trans (hb.mono hbw2.size))) hcutb
          clear hB hBr
          go_wp2
          go_region_held (fun w' => (convert 32 9 (.slice (some ⟨bb, off + n, none⟩) N' (cap - n))).run Tryz.prog w' = .ok (.string (str BB)) w')
            (first | go_keep | exact x4 | exact hS _ hd2)
            (first | (go_at_call 78; refine k42.mono ?_; rintro e w4 ⟨v4, rfl, hO4, hb4⟩; have hbel4 := hd2.trans hb4; have x4 := hS _ hbel4; have y4 := str_of hO4.bs hcutb))
          have hbw4 : Below w.heap.size w w4 := hbw2.trans (hbel4.mono hbw2.size)
          have hblk4 := (hbel4.block w.heap.size (by have := hb2.size; omega)).trans ((hb2.block w.heap.size (by omega)).trans hblk)
          have d0 : w4.cell? ⟨w.heap.size, 0, none⟩ = some (.int .u8 0) := by rw [cells_of_block hblk4]; rfl
          have d1 : w4.cell? ⟨w.heap.size, 1, none⟩ = some (.slice none 0 0) := by rw [cells_of_block hblk4]; rfl
          have g0 := frozen_of hblk4 0
          have g1 := frozen_of hblk4 1
          have hlt4 : 4 < BB.length := by omega
          have hB4 := hBody w4 hbw4
          obtain ⟨kk, hkk⟩ : ∃ kk, kk = BB[4]?.getD 0 := ⟨_, rfl⟩
          rw [← hkk] at hx
          have hxH : Hid (X = .ok (kk, (BB.drop 5), (n + N'))) := hx
          clear hx
          have hcb : w4.cell? ⟨bb, off + n + 4, none⟩ = some (.int .u8 (kk : Int)) ∧ bb < n₀ := by
            obtain ⟨_, _, e1, _, _, _, e5⟩ := id hB4
            cases e1
            obtain ⟨b', off', z1, z2, z3⟩ := e5 (by rintro rfl; simp at hlt4)
            cases z1
            exact ⟨z3 4 _ (by rw [hkk, List.getElem?_eq_getElem hlt4]; rfl), z2⟩
          obtain ⟨hcell, hbb⟩ := hcb
          have hbb2 : ¬ bb = w.heap.size := by omega
          have hbb3 : ¬ w.heap.size = bb := by omega
          clear hkk
          have hlb : bb < w4.heap.size := World.block_lt_of_cell? w4 _ hcell
          have hB5 := hB4
          rw [← hcutl] at hB5
          have hB5 := hB5.drop 5 (by omega)
          rw [hcutl] at hB5
          have hd4 : Below w4.heap.size w4 w4.drew := (Below.refl _ _).drew
          have hO5 := own_new w4.drew #[] [] rfl (by simp)
          have hb5 := (Below.refl w4.drew.heap.size w4.drew).alloc (Nat.le_refl _) (.cells #[] 5)
          have hB6 := (hB5.below (hd4.mono (Nat.le_trans hn₀ hbw4.size))).below (hb5.mono (Nat.le_trans hn₀ hbw4.size))
          have hl0 : ([] : List Nat).length + (BB.drop 5).length ≤ 140737488355328 := by rw [List.length_drop]; simp; omega
          have m5 : (5 : Int) ≤ (N' : Int) := by omega
          have m6 : (4 : Int) < (N' : Int) := by omega
          have m7 : 4 < N' := by omega
          have hkeep : ∀ w', Below w4.heap.size w4 w' → w'.cell? ⟨bb, off + n + 4, none⟩ = some (.int .u8 (kk : Int)) := fun w' hb => (hb.cell (p := ⟨bb, off + n + 4, none⟩) hlb).trans hcell
          have hblk : ∀ w', Below w4.heap.size w4 w' → w'.heap[w.heap.size]? = some (.cells #[.int .u8 0, .slice none 0 0] 145 (0, 0)) := fun w' hb => (hb.block w.heap.size (by have := hbel4.size; have := hb2.size; omega)).trans hblk4
          clear hlt4
          clear hO4 hB4 hB5 x4 y4 hS k42 k4 hBody d0 d1 g0 g1 hcell
          go_wp2
          by_cases hck : cap - n = 5
          · rw [if_pos hck] at hB6
            have hckH : Hid (cap - n = 5) := hck
            clear hck
            go_region_held3 (fun w' => w'.cell? ⟨bb, off + n + 4, none⟩ = some (.int .u8 (kk : Int)))
              (first | exact hkeep _ hd4 | exact hkeep _ (hd4.trans hb5) | exact hkeep _ (hd4.trans (hb5.trans hb6)) | go_keep)
              ((refine step_append_bs (by rfl) _ _ (by rfl) w4.drew.heap.size (.slice (some ⟨w4.drew.heap.size, 0, none⟩) 0 0) [] (by rfl) hO5 hb5.size n₀ (.slice (some ⟨bb, off + n, none⟩) (N' - 5) (cap - n - 5)) _ (by have hck := hckH.out; simp [Act.eval, Act.put, hck]) hB6 hl0 ?_; intro v6 w6 hO6 hb6; obtain ⟨ao6, cap6, rfl⟩ := hO6.shape; have hx6 := hblk w6 (hd4.trans (hb5.trans hb6)); have z0 : w6.cell? ⟨w.heap.size, 0, none⟩ = some (.int .u8 0) := (by rw [cells_of_block hx6]; rfl); have z1 : w6.cell? ⟨w.heap.size, 1, none⟩ = some (.slice none 0 0) := (by rw [cells_of_block hx6]; rfl); have z2 := frozen_of hx6 0; have z3 := frozen_of hx6 1))
            have hO7 : Own w4.drew.heap.size w6 (.slice ao6 (N' - 5) cap6) (BB.drop 5) := by
              have := hO6
              simp only [List.nil_append, List.length_drop, hcutl] at this
              exact this
            have hbw6 : Below w.heap.size w w6 := hbw4.trans ((hd4.trans (hb5.trans hb6)).mono hbw4.size)
            have fin := fun z hz => item_some kk (n + N') _ X hxH.out w.heap.size w4.drew.heap.size w w6 _ hO7 (show w.heap.size < w4.heap.size by have := hbel4.size; have := hb2.size; omega) hbw6 z hz
            have hit := item_set hx6 (.int .u8 (kk : Int)) (.slice ao6 (N' - 5) cap6)
            clear hO6 hO7 hb6 hB6 hO5 hb5
            go_wp2
            (try simp only [Exit.inBlock, Exit.then])
            refine bodyPost_ret (results_item rfl _ _ w.heap.size _ _ rfl hit) rfl ?_
            have zz1 : (n : Int) + (N' : Int) = ((n + N' : Nat) : Int) := by omega
            have zz2 : IntKind.i64.wrap ((n : Int) + (N' : Int)) = ((n + N' : Nat) : Int) := by rw [q2, zz1]
            have zz3 : IntKind.i64.wrap ((n : Int) + IntKind.i64.wrap (N' : Int)) = ((n + N' : Nat) : Int) := by rw [show IntKind.i64.wrap (N' : Int) = (N' : Int) from IntWalk.i64_in _ (by omega), q2, zz1]
            first | exact fin _ zz3 | exact fin _ zz2 | exact fin _ zz1
          · rw [if_neg hck] at hB6
            have hckH : Hid (¬ cap - n = 5) := hck
            go_region_held3 (fun w' => w'.cell? ⟨bb, off + n + 4, none⟩ = some (.int .u8 (kk : Int)))
              (first | exact hkeep _ hd4 | exact hkeep _ (hd4.trans hb5) | exact hkeep _ (hd4.trans (hb5.trans hb6)) | go_keep)
              ((refine step_append_bs (by rfl) _ _ (by rfl) w4.drew.heap.size (.slice (some ⟨w4.drew.heap.size, 0, none⟩) 0 0) [] (by rfl) hO5 hb5.size n₀ (.slice (some ⟨bb, off + n + 5, none⟩) (N' - 5) (cap - n - 5)) _ (by have hck := hckH.out; simp [Act.eval, Act.put, hck]) hB6 hl0 ?_; intro v6 w6 hO6 hb6; obtain ⟨ao6, cap6, rfl⟩ := hO6.shape; have hx6 := hblk w6 (hd4.trans (hb5.trans hb6)); have z0 : w6.cell? ⟨w.heap.size, 0, none⟩ = some (.int .u8 0) := (by rw [cells_of_block hx6]; rfl); have z1 : w6.cell? ⟨w.heap.size, 1, none⟩ = some (.slice none 0 0) := (by rw [cells_of_block hx6]; rfl); have z2 := frozen_of hx6 0; have z3 := frozen_of hx6 1))
            have hO7 : Own w4.drew.heap.size w6 (.slice ao6 (N' - 5) cap6) (BB.drop 5) := by
              have := hO6
              simp only [List.nil_append, List.length_drop, hcutl] at this
              exact this
            have hbw6 : Below w.heap.size w w6 := hbw4.trans ((hd4.trans (hb5.trans hb6)).mono hbw4.size)
            have fin := fun z hz => item_some kk (n + N') _ X hxH.out w.heap.size w4.drew.heap.size w w6 _ hO7 (show w.heap.size < w4.heap.size by have := hbel4.size; have := hb2.size; omega) hbw6 z hz
            have hit := item_set hx6 (.int .u8 (kk : Int)) (.slice ao6 (N' - 5) cap6)
            clear hO6 hO7 hb6 hB6 hO5 hb5
            go_wp2
            (try simp only [Exit.inBlock, Exit.then])
            refine bodyPost_ret (results_item rfl _ _ w.heap.size _ _ rfl hit) rfl ?_
            have zz1 : (n : Int) + (N' : Int) = ((n + N' : Nat) : Int) := by omega
            have zz2 : IntKind.i64.wrap ((n : Int) + (N' : Int)) = ((n + N' : Nat) : Int) := by rw [q2, zz1]
            have zz3 : IntKind.i64.wrap ((n : Int) + IntKind.i64.wrap (N' : Int)) = ((n + N' : Nat) : Int) := by rw [show IntKind.i64.wrap (N' : Int) = (N' : Int) from IntWalk.i64_in _ (by omega), q2, zz1]
            first | exact fin _ zz3 | exact fin _ zz2 | exact fin _ zz1
        · have hx := hbt2 hsl
          have hst := str_ne hslb hcutb hsl
          have hst2 : ¬ (str (sealed (BB.drop 4))).toList = (str BB).toList := fun h => by rw [h] at hst; simp at hst
          clear hbt1 hbt2
          generalize sealed (BB.drop 4) = SS at *
          go_wp2_with fail
          refine kv.mono ?_
          rintro e w2 ⟨rfl, hb2⟩
          have hbw2 : Below w.heap.size w w2 := hbw.trans (hb2.mono hsz)
          clear c0 c1 f0 f1 kv
          have hd2 : Below w2.heap.size w2 w2.drew := (Below.refl _ _).drew
          have k42 := k4 w2.drew hbw2.drew
          have hS : ∀ w', Below w2.heap.size w2 w' → (convert 32 9 (.slice (some ⟨bb, off + n, none⟩) N' (cap - n))).run Tryz.prog w' = .ok (.string (str BB)) w' := fun w' hb => str_of (hBody w' (hbw2.trans (hb.mono hbw2.size))) hcutb
          clear hB hBr
          go_wp2
          go_region_held (fun w' => (convert 32 9 (.slice (some ⟨bb, off + n, none⟩) N' (cap - n))).run Tryz.prog w' = .ok (.string (str BB)) w')
            (first | go_keep | exact x4 | exact hS _ hd2)
            (first | (go_at_call 78; refine k42.mono ?_; rintro e w4 ⟨v4, rfl, hO4, hb4⟩; have hbel4 := hd2.trans hb4; have x4 := hS _ hbel4; have y4 := str_of hO4.bs hslb))
          have hbw4 : Below w.heap.size w w4 := hbw2.trans (hbel4.mono hbw2.size)
          have hblk4 := (hbel4.block w.heap.size (by have := hb2.size; omega)).trans ((hb2.block w.heap.size (by omega)).trans hblk)
          have d0 : w4.cell? ⟨w.heap.size, 0, none⟩ = some (.int .u8 0) := by rw [cells_of_block hblk4]; rfl
          have d1 : w4.cell? ⟨w.heap.size, 1, none⟩ = some (.slice none 0 0) := by rw [cells_of_block hblk4]; rfl
          have g0 := frozen_of hblk4 0
          have g1 := frozen_of hblk4 1
          have fin : ∀ e, X = .error e → _ := fun e he => item_none e X he w.heap.size w w4 hbw4
          go_wp2
          (try simp only [Exit.inBlock, Exit.then])
          refine bodyPost_ret (results_item rfl _ _ w.heap.size _ _ rfl (item_set hblk4 _ _)) rfl ?_
          exact fin 5 hx
      · rw [decide_eq_false hv] at kv
        have H' : Hid (∀ j N, j < n + 1 → rd 10 0 0 l ≠ some (N, j)) := by
          intro j N'' hj h
          by_cases hjn : j = n
          · subst hjn
            exact hv (hback N'' h)
          · exact H.out j N'' (by omega) h
        clear hv hiff H hBt HX hback
        go_wp2_with fail
        refine kv.mono ?_
        rintro e w2 ⟨rfl, hb2⟩
        go_wp2
        go_roundg (gk - 1)
        case measure => omega
        case rel => exact ⟨n + 1, by omega, by omega, by go_num, H', hbel.trans (hb2.mono hsz1)⟩
    · have hrn := rd_last hl hgo H.out
      have ko := refOpen_of n₀ l _ wr hBr
      have hgo1 : ¬ ((n : Int) ≤ (l.length : Int) ∧ (n : Int) ≤ 10) := by omega
      have hxn : Hid (X = if openB l = true then .error 12 else .error 5) := by show _ = _; rw [HX.out]; unfold next; rw [hrn]
      clear H HX hrn
      generalize openB l = ob at *
      have fin : ∀ e, X = .error e → _ := fun e he => item_none e X he w.heap.size w wr hbw
      clear hB hBr hbel hbw
      by_cases hnl : n ≤ l.length
      · have i1 : (n : Int) ≤ (l.length : Int) := by omega
        have i2 : ¬ (n : Int) ≤ 10 := by omega
        clear hgo hgo1
        cases ob with
        | true =>
          have hx : X = .error 12 := hxn.out
          go_wp2_with fail
          refine ko.mono ?_
          rintro e w2 ⟨rfl, hw2⟩
          rw [hw2]
          clear hw2 w2
          go_wp2
          (try simp only [Exit.inBlock, Exit.then])
          refine bodyPost_ret (results_item rfl _ _ w.heap.size _ _ rfl (item_set hblk _ _)) rfl ?_
          exact fin 12 hx
        | false =>
          have hx : X = .error 5 := hxn.out
          go_wp2_with fail
          refine ko.mono ?_
          rintro e w2 ⟨rfl, hw2⟩
          rw [hw2]
          clear hw2 w2
          go_wp2
          (try simp only [Exit.inBlock, Exit.then])
          refine bodyPost_ret (results_item rfl _ _ w.heap.size _ _ rfl (item_set hblk _ _)) rfl ?_
          exact fin 5 hx
      · have i1 : ¬ (n : Int) ≤ (l.length : Int) := by omega
        clear hgo hgo1
        cases ob with
        | true =>
          have hx : X = .error 12 := hxn.out
          go_wp2_with fail
          refine ko.mono ?_
          rintro e w2 ⟨rfl, hw2⟩
          rw [hw2]
          clear hw2 w2
          go_wp2
          (try simp only [Exit.inBlock, Exit.then])
          refine bodyPost_ret (results_item rfl _ _ w.heap.size _ _ rfl (item_set hblk _ _)) rfl ?_
          exact fin 12 hx
        | false =>
          have hx : X = .error 5 := hxn.out
          go_wp2_with fail
          refine ko.mono ?_
          rintro e w2 ⟨rfl, hw2⟩
          rw [hw2]
          clear hw2 w2
          go_wp2
          (try simp only [Exit.inBlock, Exit.then])
          refine bodyPost_ret (results_item rfl _ _ w.heap.size _ _ rfl (item_set hblk _ _)) rfl ?_
          exact fin 5 hx
end Go.Proofs.YtgfoogeiancecaaGreatDoor.Fr

