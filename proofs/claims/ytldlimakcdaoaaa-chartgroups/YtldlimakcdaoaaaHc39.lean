import Derived.Test.YtldlimakcdaoaaaHc38
/- The contract of Groups. -/
namespace Go.Proofs.Ytldlimakcdaoaaa
open Go.RowKit SpanMath ChartMath
set_option maxRecDepth 100000
set_option linter.unusedSimpArgs false
set_option linter.unusedVariables false

/-- Keys, numbers as elements. -/
def keyE : El K := ⟨fun k => [.string (bk k)], 1, fun _ => rfl, fun x u hu => by
  simp only [List.mem_singleton] at hu
  subst hu
  rfl, by decide⟩
def intE : El Int := ⟨fun z => [.int .i64 z], 1, fun _ => rfl, fun x u hu => by
  simp only [List.mem_singleton] at hu
  subst hu
  rfl, by decide⟩
theorem infoInt : (Try.prog.info? 3).map (fun i => (i.zero, i.size, i.bytes)) = some (some (.int .i64 0), 1, 8) := by kernel_rfl
theorem push_int {w : World} {v : Value} {xs : List Int} (z : Int) (h : Rk intE w 3 v xs) (hlen : xs.length ≤ 1000000) :
    ∀ ty, ∃ v' w', (Builtin.append_ #[44, 44] ty #[v, .slice (some ⟨w.heap.size, 0, none⟩) 1 1]).run Try.prog (w.alloc (.cells #[.int .i64 z] 3)) = .ok v' w' ∧ PushT intE 3 w v (xs ++ [z]) v' w' := by
  intro ty
  obtain ⟨i0, i1, i2, i3, i4⟩ := info_get infoInt
  obtain ⟨hsz, hn0, hbb⟩ := one_box w (.cells #[.int .i64 z] 3)
  have hx : Rd intE (w.alloc (.cells #[.int .i64 z] 3)) (.slice (some ⟨w.heap.size, 0, none⟩) 1 1) [z] := (Rk.made (xs := [z]) hn0 rfl (by unfold maxLen; simp)).rd
  obtain ⟨v', w', h1, h2, h3, h4⟩ := append_rd intE _ 44 3 i0 _ 8 Try.underlying44 i1 i2 i3 i4 rfl (by decide) v _ xs [z] (h.same fun k hk => hbb.block k (h.lt hk)) hx hlen (by simp) ty
  refine ⟨v', w', h1, h2, grown_of_below hbb h3, fun k hk => ?_⟩
  rcases h4 k hk with h' | h'
  · exact .inl h'
  · exact .inr (by omega)
def OwnI (n : Nat) (w : World) (v : Value) (l : List Int) : Prop := Rk intE w 3 v l ∧ ∀ k, v.ownBlock = some k → n ≤ k
theorem OwnI.nil (n : Nat) (w : World) : OwnI n w (.slice none 0 0) [] := ⟨Rk.nil _ _ _, fun k hk => by cases hk⟩
theorem OwnI.below {n : Nat} {w w' : World} {v : Value} {l : List Int} (h : OwnI n w v l) (hb : Below w.heap.size w w') : OwnI n w' v l := ⟨h.1.same fun k hk => hb.block k (h.1.lt hk), h.2⟩
theorem OwnI.push {n : Nat} {w w' : World} {v v' : Value} {l l' : List Int} (h : OwnI n w v l) (hn : n ≤ w.heap.size) (hp : PushT intE 3 w v l' v' w') : OwnI n w' v' l' ∧ Below n w w' := by
  obtain ⟨h1, h2, h3⟩ := hp
  refine ⟨⟨h1, fun k hk => ?_⟩, grown_below h2 hn h.2⟩
  rcases h3 k hk with h' | h'
  · exact h.2 k h'
  · omega
theorem rdi_nil (w : World) : Rd intE w (.slice none 0 0) [] := ⟨none, 0, rfl, by simp, fun _ => rfl, fun i x j u hx => by simp at hx⟩

/-- A key's group. -/
def grpAt (l : List Rg) (k : K) : Int := match (place l k).bind (fun i => l[i]?) with | some r => r.2.1 | none => 0
theorem grpAt_of {l : List Rg} (hC : Chart l) (k : K) : ∃ i r, place l k = some i ∧ l[i]? = some r ∧ ∃ G : Nat, r.2.1 = (G : Int) ∧ 1 ≤ G ∧ G ≤ 16 ∧ grpAt l k = (G : Int) := by
  obtain ⟨i, r, h1, h2, h3⟩ := hC.place k
  have hr := hC.ok r (List.mem_of_getElem? h2)
  simp only [rOk, gOk, Bool.and_eq_true, decide_eq_true_eq] at hr
  refine ⟨i, r, h1, h2, r.2.1.toNat, by omega, by omega, by omega, ?_⟩
  unfold grpAt
  rw [h1]
  simp only [Option.bind_some, h2]
  omega
/-- Whether a group has one of the keys. -/
def hasG (l : List Rg) (ks : List K) (g : Nat) : Bool := ks.any fun k => decide (grpAt l k = (g : Int))
def grpsTo (l : List Rg) (ks : List K) (n : Nat) : List Int := ((List.range n).filter (hasG l ks)).map fun n : Nat => (n : Int)
def keysOk (ks : List K) : Bool := ks.all fun k => decide (k.length ≤ 64)
theorem grps_yes {l : List Rg} {ks : List K} {n : Nat} (h : hasG l ks n = true) : grpsTo l ks (n + 1) = grpsTo l ks n ++ [(n : Int)] := by
  unfold grpsTo
  rw [List.range_succ, List.filter_append, List.map_append]
  simp [h]
theorem grps_no {l : List Rg} {ks : List K} {n : Nat} (h : hasG l ks n = false) : grpsTo l ks (n + 1) = grpsTo l ks n := by
  unfold grpsTo
  rw [List.range_succ, List.filter_append, List.map_append]
  simp [h]
theorem grps_len (l : List Rg) (ks : List K) (n : Nat) : (grpsTo l ks n).length ≤ n := by
  unfold grpsTo
  rw [List.length_map]
  exact Nat.le_trans (List.length_filter_le _ _) (by simp)
theorem hasG_take {l : List Rg} {ks : List K} {m : Nat} {k : K} (h : ks[m]? = some k) (g : Nat) : hasG l (ks.take (m + 1)) g = (hasG l (ks.take m) g || decide (grpAt l k = (g : Int))) := by
  unfold hasG
  rw [take_succ_get h, List.any_append]
  simp
/-- The seventeen marks. -/
def arrL (f : Nat → Bool) : List Value := (List.range 17).map fun j => .bool (f j)
theorem arr_set {f : Nat → Bool} {G : Nat} (hG : G < 17) : (arrL f).toArray.setIfInBounds G (.bool true) = (arrL fun j => f j || decide (j = G)).toArray := by
  unfold arrL
  apply Array.ext'
  simp only [Array.toList_setIfInBounds]
  apply List.ext_getElem?
  intro i
  by_cases h1 : i < 17
  · rw [List.getElem?_set]
    by_cases h2 : G = i
    · subst h2
      simp [h1]
    · rw [if_neg h2]
      have h3 : ¬ i = G := fun h => h2 h.symm
      simp [h1, h3]
  · rw [List.getElem?_set]
    have h2 : ¬ G = i := by omega
    rw [if_neg h2]
    simp [h1]
theorem arr_get (f : Nat → Bool) {i : Nat} (h : i < 17) : (arrL f).toArray[i]? = some (.bool (f i)) := by
  unfold arrL
  simp [h]

theorem run_index17 (CS : Array Value) (j : Nat) (b : Bool) (w : World) (hj : j < 17) (hg : CS[j]? = some (.bool b)) : (Instr.index 77 (.agg CS) (.int .i64 (j : Int))).run Try.prog w = .ok (.bool b) w := by
  have h : Try.prog.underlying 77 = some (.array 17 4) := by kernel_rfl
  have hz := Try.sizeOf4
  have hn : (0 : Int) ≤ (j : Int) ∧ (j : Int) < 17 := by omega
  simp [Instr.index, run_underlying h, asIntOf, hn, go_sem, hz]
  rw [if_pos hj, hg]
  rfl

/-- What Groups tells. -/
def GrpT (ok : Bool) (m : List Int) (e : Ending) (w' : World) : Prop := ∃ v c, e = .returned (.tuple #[v, .int .i64 c]) ∧ if ok then c = 0 ∧ Rd intE w' v m else c = 1 ∧ v = .slice none 0 0

set_option maxHeartbeats 8000000 in
theorem groups_of (l : List Rg) (lv : Value) (ks : List K) (kv : Value) (w : World) (hF : Cv w lv l) (hK : Rd keyE w kv ks) (hlen : ks.length ≤ 1000000) : Calls Try.prog 25 #[lv, kv] w fun e w' => GrpT (mayC l && keysOk ks) (grpsTo l ks 17) e w' ∧ Below w.heap.size w w' := by
  obtain ⟨T, HT⟩ : ∃ T, Hid (T = GrpT (mayC l && keysOk ks) (grpsTo l ks 17)) := ⟨_, rfl⟩
  rw [← HT.out]
  have kc := ccheck_of l lv w hF
  obtain ⟨ao, cap, rfl, h2⟩ := id hF
  obtain ⟨ka, kcap, rfl, -, -, hk2⟩ := id hK
  cases hm : mayC l with
  | false =>
    rw [hm] at kc
    simp only [Bool.false_eq_true, if_false] at kc
    have E1 : Hid (∀ W, T (.returned (.tuple #[.slice none 0 0, .int .i64 1])) W) := fun W => by rw [HT.out, hm]; exact ⟨_, _, rfl, rfl, rfl⟩
    clear HT hm hF h2 hk2 hK
    go_enter Try.func25, Try.ntmps25
    go_wp2_with fail
    refine kc.mono ?_
    rintro e w1 ⟨rfl, hb1⟩
    go_wp2
    go_ret2
    exact ⟨E1.out _, hb1⟩
  | true =>
    rw [hm] at kc
    simp only [if_true] at kc
    have hC := mayC_iff.1 hm
    have hl64 := hC.len
    have HT1 : Hid (T = GrpT (keysOk ks) (grpsTo l ks 17)) := by show _ = _; rw [HT.out, hm, Bool.true_and]
    have hkW : ∀ W, Below w.heap.size w W → ∀ (m : Nat) (k : K), ks[m]? = some k → ∃ b off, ka = some ⟨b, off, none⟩ ∧ W.cell? ⟨b, off + m, none⟩ = some (.string (bk k)) := fun W hW m k hk => by
      obtain ⟨b, off, r1, r2⟩ := hk2 m k 0 _ hk rfl
      rw [show m * keyE.k + 0 = m from Nat.mul_one m] at r2
      exact ⟨b, off, r1, (hW.cell (p := ⟨b, off + m, none⟩) (World.block_lt_of_cell? w _ r2)).trans r2⟩
    clear HT hm hk2 hK
    go_enter Try.func25, Try.ntmps25
    go_wp2_with fail
    refine kc.mono ?_
    rintro e w1 ⟨rfl, hb1⟩
    clear kc
    obtain ⟨q1, q2, q3⟩ := one_box w1 (.cells (arrL fun _ => false).toArray 77)
    have hb2 := hb1.trans (q3.mono hb1.size)
    have hNl : w.heap.size ≤ w1.heap.size := hb1.size
    have hfalse : (fun _ : Nat => false) = hasG l (ks.take 0) := by funext j; simp [hasG]
    rw [hfalse] at q2 hb2
    clear q1 q3 hb1 hfalse
    go_wp2
    have hww : w1.alloc (.cells #[.bool false, .bool false, .bool false, .bool false, .bool false, .bool false, .bool false, .bool false, .bool false, .bool false, .bool false, .bool false, .bool false, .bool false, .bool false, .bool false, .bool false] 77) = w1.alloc (.cells (arrL (hasG l (ks.take 0))).toArray 77) := by
      have : (arrL (hasG l (ks.take 0))).toArray = #[.bool false, .bool false, .bool false, .bool false, .bool false, .bool false, .bool false, .bool false, .bool false, .bool false, .bool false, .bool false, .bool false, .bool false, .bool false, .bool false, .bool false] := by simp [arrL, hasG, List.range_succ]
      rw [this]
    rw [hww]
    clear hww
    generalize w1.alloc (.cells (arrL (hasG l (ks.take 0))).toArray 77) = wb at *
    generalize w1.heap.size = Nh at *
    go_loopg [17] ks.length (fun gg s17 wr => ∃ m : Nat, m + gg = ks.length ∧ s17 = .int .i64 (m : Int) ∧ Below w.heap.size w wr ∧ wr.heap[Nh]? = some (.cells (arrL (hasG l (ks.take m))).toArray 77 (0, 0)) ∧ Hid (keysOk (ks.take m) = true))
    case atStart => exact ⟨0, by simp, rfl, hb2, q2, rfl⟩
    case round =>
      obtain ⟨m, hmg, rfl, hb, hA, HK⟩ := hrel
      clear q2 hb2
      by_cases hlt : m < ks.length
      · have hlti : (m : Int) < (ks.length : Int) := by omega
        have hx : ks[m]? = some ks[m] := List.getElem?_eq_getElem hlt
        obtain ⟨kb, ko, rfl, c0⟩ := hkW wr hb m _ hx
        obtain ⟨k, hk⟩ : ∃ k, k = ks[m] := ⟨_, rfl⟩
        rw [← hk] at hx c0
        have ki := cisKey_of k wr
        by_cases hk64 : k.length ≤ 64
        · rw [decide_eq_true hk64] at ki
          obtain ⟨i, r, hp, hr, G, hG, hG1, hG2, hgA⟩ := grpAt_of hC k
          have kp := fun W (hW : Below w.heap.size w W) => placeOf_of (hF.below hW) hC hk64 hp
          obtain ⟨b, off, rfl, cx⟩ := cv_at hF hr
          obtain ⟨⟨r1, r2⟩, rg, re⟩ := r
          dsimp only at hG cx
          subst hG
          have hil : (i : Int) < (l.length : Int) := by have := (List.getElem?_eq_some_iff.1 hr).1; omega
          have hi0 : (0 : Int) ≤ (i : Int) := by omega
          have hGi : (G : Int) < 17 := by omega
          have hG0 : (0 : Int) ≤ (G : Int) := by omega
          have HK2 : Hid (keysOk (ks.take (m + 1)) = true) := by
            show _ = _
            have h9 := HK.out
            unfold keysOk at h9 ⊢
            rw [take_succ_get hx, List.all_append, h9]
            simp [hk64]
          have hset : (arrL (hasG l (ks.take m))).toArray.setIfInBounds G (.bool true) = (arrL (hasG l (ks.take (m + 1)))).toArray := by
            rw [arr_set (by omega)]
            congr 2
            funext j
            rw [hasG_take hx, hgA]
            congr 1
            simp only [decide_eq_decide]
            omega
          clear hk hp hr hgA HK hx
          go_wp2_with fail
          refine ki.mono ?_
          rintro e w2 ⟨rfl, hb2'⟩
          have hb2 := hb.trans (hb2'.mono hb.size)
          have hA2 := (hb2'.block Nh (Array.getElem?_eq_some_iff.1 hA).1).trans hA
          have kp1 := kp w2 hb2
          clear ki kp hb hb2' hA c0
          go_wp2_with fail
          refine kp1.mono ?_
          rintro e w3 ⟨rfl, hb3'⟩
          have hb3 := hb2.trans (hb3'.mono hb2.size)
          have hA3 := (hb3'.block Nh (Array.getElem?_eq_some_iff.1 hA2).1).trans hA2
          obtain ⟨-, -, e2, -⟩ := cx w3 hb3
          have y3 : w3.cell? ⟨Nh, G, none⟩ = some (.bool (hasG l (ks.take m) G)) := by rw [cells_of_block hA3, arr_get _ (by omega)]
          have fz : w3.frozen? ⟨Nh, G, none⟩ = false := frozen_of hA3 _
          have hA4 : (w3.setCell ⟨Nh, G, none⟩ (.bool true)).heap[Nh]? = some (.cells (arrL (hasG l (ks.take (m + 1)))).toArray 77 (0, 0)) := by
            rw [← hset]
            simp [World.setCell, Array.getElem?_modify, hA3]
          have hb4 : Below w.heap.size w (w3.setCell ⟨Nh, G, none⟩ (.bool true)) := hb3.setCell (p := ⟨Nh, G, none⟩) hNl _
          clear kp1 hb2 hb3' hA2 hA3 cx hset
          go_wp2
          go_roundg (gk - 1)
          case measure => omega
          case rel => exact ⟨m + 1, by omega, by go_num, hb4, hA4, HK2⟩
        · rw [decide_eq_false hk64] at ki
          have E1 : Hid (∀ W, T (.returned (.tuple #[.slice none 0 0, .int .i64 1])) W) := fun W => by
            rw [HT1.out, show keysOk ks = false by
              rw [Bool.eq_false_iff]
              intro h
              unfold keysOk at h
              rw [List.all_eq_true] at h
              have := h k (List.mem_of_getElem? hx)
              simp only [decide_eq_true_eq] at this
              exact hk64 this]
            exact ⟨_, _, rfl, rfl, rfl⟩
          clear HT1 HK hx hk hk64 hA
          go_wp2_with fail
          refine ki.mono ?_
          rintro e w2 ⟨rfl, hb2'⟩
          go_wp2
          go_ret2
          exact ⟨E1.out _, hb.trans (hb2'.mono hb.size)⟩
      · have hlti : ¬ (m : Int) < (ks.length : Int) := by omega
        obtain rfl : m = ks.length := by omega
        rw [List.take_length] at hA
        have HT2 : Hid (T = GrpT true (grpsTo l ks 17)) := by show _ = _; rw [HT1.out, ← HK.out, List.take_length]
        have hcell : ∀ j, j < 17 → wr.cell? ⟨Nh, j, none⟩ = some (.bool (hasG l ks j)) := fun j hj => by rw [cells_of_block hA, arr_get _ hj]
        obtain ⟨f, hf⟩ : ∃ f, f = hasG l ks := ⟨_, rfl⟩
        have HF : Hid (hasG l ks = f) := hf.symm
        rw [← hf] at hcell
        clear hf
        have z0 := hcell 0 (by decide)
        have z1 := hcell 1 (by decide)
        have z2 := hcell 2 (by decide)
        have z3 := hcell 3 (by decide)
        have z4 := hcell 4 (by decide)
        have z5 := hcell 5 (by decide)
        have z6 := hcell 6 (by decide)
        have z7 := hcell 7 (by decide)
        have z8 := hcell 8 (by decide)
        have z9 := hcell 9 (by decide)
        have z10 := hcell 10 (by decide)
        have z11 := hcell 11 (by decide)
        have z12 := hcell 12 (by decide)
        have z13 := hcell 13 (by decide)
        have z14 := hcell 14 (by decide)
        have z15 := hcell 15 (by decide)
        have z16 := hcell 16 (by decide)
        have hget : ∀ j, j < 17 → (#[.bool (f 0), .bool (f 1), .bool (f 2), .bool (f 3), .bool (f 4), .bool (f 5), .bool (f 6), .bool (f 7), .bool (f 8), .bool (f 9), .bool (f 10), .bool (f 11), .bool (f 12), .bool (f 13), .bool (f 14), .bool (f 15), .bool (f 16)] : Array Value)[j]? = some (.bool (f j)) := fun j hj => by
          have := arr_get f hj
          have e17 : (arrL f).toArray = #[.bool (f 0), .bool (f 1), .bool (f 2), .bool (f 3), .bool (f 4), .bool (f 5), .bool (f 6), .bool (f 7), .bool (f 8), .bool (f 9), .bool (f 10), .bool (f 11), .bool (f 12), .bool (f 13), .bool (f 14), .bool (f 15), .bool (f 16)] := by simp [arrL, List.range_succ]
          rw [e17] at this
          exact this
        clear HT1 HK hkW hcell hC hF h2 hA
        go_wp2
        generalize (#[.bool (f 0), .bool (f 1), .bool (f 2), .bool (f 3), .bool (f 4), .bool (f 5), .bool (f 6), .bool (f 7), .bool (f 8), .bool (f 9), .bool (f 10), .bool (f 11), .bool (f 12), .bool (f 13), .bool (f 14), .bool (f 15), .bool (f 16)] : Array Value) = CS at *
        have hO0 := OwnI.nil w.heap.size wr
        obtain ⟨wz, hwz⟩ : ∃ wz, wz = wr := ⟨_, rfl⟩
        subst hwz
        clear z0 z1 z2 z3 z4 z5 z6 z7 z8 z9 z10 z11 z12 z13 z14 z15 z16
        go_loopg [9, 34] 17 (fun gg s9 s34 wr => ∃ (j : Nat) (st : Value), j + gg = 17 ∧ s34 = .int .i64 (j : Int) ∧ st = s9 ∧ OwnI w.heap.size wr st (grpsTo l ks j) ∧ Below w.heap.size w wr)
        case atStart => exact ⟨0, _, by simp, rfl, rfl, hO0, hb⟩
        case round =>
          obtain ⟨j, st, hjg, rfl, rfl, hO, hbj⟩ := hrel
          clear hO0
          by_cases hj : j < 17
          · have hji : (j : Int) < 17 := by omega
            have hgi := fun W => run_index17 CS j (f j) W hj (hget j hj)
            have hln := grps_len l ks j
            cases hfj : f j with
            | true =>
              have HX : Hid (grpsTo l ks (j + 1) = grpsTo l ks j ++ [(j : Int)]) := grps_yes (by rw [HF.out]; exact hfj)
              rw [hfj] at hgi
              have hrun : Hid _ := push_int (j : Int) hO.1 (by omega)
              obtain ⟨sa, sc, hst, -⟩ := hO.1.shape
              clear hfj hget HT2 HF
              generalize (grpsTo l ks j).length = LN at *
              subst hst
              go_wp2_with (at_builtin; refine wp_by rfl _ _ _ rfl _ _ rfl rfl hrun.out ?_)
              intro v6 w6 hp6
              obtain ⟨hO6, hb6⟩ := hO.push hbj.size hp6
              clear hO hrun hp6
              go_wp2
              go_roundg (gk - 1)
              case measure => omega
              case rel => exact ⟨j + 1, v6, by omega, by go_num, rfl, by rw [HX.out]; exact hO6, hbj.trans hb6⟩
            | false =>
              have HX : Hid (grpsTo l ks (j + 1) = grpsTo l ks j) := grps_no (by rw [HF.out]; exact hfj)
              rw [hfj] at hgi
              clear hfj hget HT2 HF hln
              go_wp2
              go_roundg (gk - 1)
              case measure => omega
              case rel => exact ⟨j + 1, _, by omega, by go_num, rfl, by rw [HX.out]; exact hO, hbj⟩
          · obtain rfl : j = 17 := by omega
            have E1 : Hid (T (.returned (.tuple #[st, .int .i64 0])) wr) := by
              show T _ _
              rw [HT2.out]
              exact ⟨_, _, rfl, rfl, hO.1.rd⟩
            clear HT2 hO hget HF
            go_wp2
            go_ret2
            exact ⟨E1.out, hbj⟩
end Go.Proofs.Ytldlimakcdaoaaa

