import Derived.Shelf.Spec.SlicesInsert
import Derived.Shelf.Spec.SlicesInsertGrow
import Derived.Deep.Upon
import Derived.Test.YtglbjimpaoikfaaHe33
/- slices.Insert at []int, of one number: the library's contracts, laid at this program; a row of one's own. -/
namespace Go.Proofs
open Go.Shelf
def Try.laysIns_ren : Go.Shelf.Ren := ⟨fun | 21 => 65 | 27 => 70 | 28 => 71 | 35 => 73 | 39 => 74 | n => n, fun | 22 => 26 | 3 => 3 | 4 => 4 | 0 => 0 | n => n, fun | n => n⟩
theorem Try.laysIns : Go.Proofs.Lays2.n21 Try.prog Try.laysIns_ren := {
  mixed := by kernel_rfl
  f21 := Try.func65.trans (congrArg some (by kernel_rfl))
  f27 := Try.func70.trans (congrArg some (by kernel_rfl))
  f28 := Try.func71.trans (congrArg some (by kernel_rfl))
  f35 := Try.func73.trans (congrArg some (by kernel_rfl))
  f39 := Try.func74.trans (congrArg some (by kernel_rfl))
  t0 := Try.underlying0
  a0 := Try.isAgg0
  z0 := Try.sizeOf0
  v0 := Try.zeroValue0
  t3 := Try.underlying3
  a3 := Try.isAgg3
  z3 := Try.sizeOf3
  v3 := Try.zeroValue3
  t4 := Try.underlying4
  a4 := Try.isAgg4
  z4 := Try.sizeOf4
  v4 := Try.zeroValue4
  t22 := Try.underlying26
  a22 := Try.isAgg26
  z22 := Try.sizeOf26
  v22 := Try.zeroValue26
  i3 := by kernel_rfl }
end Go.Proofs
namespace Go.Proofs.Ytglbjimpaoikfaa
open Go.RowKit LeaseMath
set_option maxRecDepth 100000
set_option linter.unusedSimpArgs false
set_option linter.unusedVariables false

theorem zeroCells_size (z : Array Value) (n : Nat) : (Builtin.zeroCells z n).size = n * z.size := by simp [Builtin.zeroCells]
theorem flat_int (l : List Int) : intE.flat l = l.map (fun z => Value.int .i64 z) := by
  induction l with
  | nil => rfl
  | cons x l ih => rw [El.flat_cons, ih]; rfl
theorem setCells_row (g : Nat) (t : TypeId) : ∀ (vs : List Value) (o : Nat) (w : World) (cur : Array Value), w.heap[g]? = some (.cells cur t (0, 0)) → o + vs.length ≤ cur.size → ∃ cur' : Array Value, (w.setCells g o vs).heap[g]? = some (.cells cur' t (0, 0)) ∧ cur'.toList = cur.toList.take o ++ vs ++ cur.toList.drop (o + vs.length)
  | [], o, w, cur, h, _ => ⟨cur, h, by simp⟩
  | v :: r, o, w, cur, h, hl => by
    simp only [List.length_cons] at hl
    have h1 : (w.setCell ⟨g, o, none⟩ v).heap[g]? = some (.cells (cur.setIfInBounds o v) t (0, 0)) := by simp [World.setCell, Array.getElem?_modify, h]
    obtain ⟨cur', h2, h3⟩ := setCells_row g t r (o + 1) _ _ h1 (by simp; omega)
    refine ⟨cur', h2, ?_⟩
    rw [h3, Array.toList_setIfInBounds]
    have ho : o < cur.toList.length := by simp; omega
    have e1 : (cur.toList.set o v).take (o + 1) = cur.toList.take o ++ [v] := by
      rw [List.take_set, List.take_succ_eq_append_getElem ho, List.set_append_right _ _ (by rw [List.length_take]; omega), List.length_take, Nat.min_eq_left (by omega), Nat.sub_self]
      rfl
    have e2 : (cur.toList.set o v).drop (o + 1 + r.length) = cur.toList.drop (o + (v :: r).length) := by
      rw [List.drop_set_of_lt (by omega), List.length_cons]
      congr 1
      omega
    rw [e1, e2]
    simp
theorem below_setCells {n g : Nat} (hg : n ≤ g) : ∀ (vs : List Value) (o : Nat) {w w' : World}, Below n w w' → Below n w (w'.setCells g o vs)
  | [], _, _, _, h => h
  | v :: r, o, w, w', h => below_setCells hg r (o + 1) (h.setCell (p := ⟨g, o, none⟩) hg v)
theorem below_setCells_size (w : World) (g : Nat) : ∀ (o : Nat) (vs : List Value), (w.setCells g o vs).heap.size = w.heap.size
  | _, [] => rfl
  | o, v :: r => by rw [World.setCells, below_setCells_size (w.setCell ⟨g, o, none⟩ v) g (o + 1) r]; simp [World.setCell]
/-- A new row, with room behind it. -/
theorem row_new {n0 : Nat} {w1 : World} {ls : List Int} {arr : Array Value} {G : Nat} (hn : n0 ≤ w1.heap.size) (ht : arr.toList.take ls.length = intE.flat ls) (hs : arr.size = G) (hG : ls.length ≤ G) (hG2 : G ≤ maxLen) : Ow intE 3 n0 (w1.alloc (.cells arr 3)) (.slice (some ⟨w1.heap.size, 0, none⟩) ls.length G) ls :=
  ⟨⟨El.flat_length intE ls, .inr ⟨w1.heap.size, G, arr, rfl, Nat.zero_le _, heap_alloc_new w1 _, hG, hG2, by rw [hs]; exact (Nat.mul_one G).symm, by rw [show ls.length * intE.k = ls.length from Nat.mul_one _]; exact ht⟩⟩, fun k hk => by cases hk; exact hn⟩
/-- What inserting leaves. -/
def InsT (n0 : Nat) (w : World) (v : Value) (l' : List Int) (e : Ending) (w' : World) : Prop := ∃ v', e = .returned v' ∧ Ow intE 3 n0 w' v' l' ∧ w.grownBy w' v.ownBlock ∧ ∀ k, v'.ownBlock = some k → v.ownBlock = some k ∨ w.heap.size ≤ k
set_option maxHeartbeats 2000000 in
theorem insert_of (n0 : Nat) (l : List Int) (v : Value) (i : Nat) (x : Int) (vb : Nat) (w : World) (hO : Ow intE 3 n0 w v l) (hi : i ≤ l.length) (hl : l.length ≤ 1000000) (hx : w.heap[vb]? = some (.cells #[.int .i64 x] 3 (0, 0))) (hvb : v.ownBlock ≠ some vb) (hn : n0 ≤ w.heap.size) :
    Calls Try.prog 65 #[v, .int .i64 (i : Int), .slice (some ⟨vb, 0, none⟩) 1 1] w fun e w' => InsT n0 w v (l.take i ++ [x] ++ l.drop i) e w' := by
  have hvs : ∀ j u, ([Value.int .i64 x] : List Value)[j]? = some u → w.cell? ⟨vb, 0 + j, none⟩ = some u := fun j u hj => by
    match j, hj with
    | 0, hj => cases hj; rw [cells_of_block hx]; rfl
    | j + 1, hj => simp at hj
  have h1v : ∀ u ∈ ([Value.int .i64 x] : List Value), u.oneCell' = true := fun u hu => by
    rw [List.mem_singleton] at hu
    rw [hu]; rfl
  have hfl := flat_int l
  have h1c : ∀ u ∈ intE.flat l, u.oneCell' = true := El.flat_mem intE
  have hcl : (intE.flat l).length = l.length := (El.flat_length intE l).trans (Nat.mul_one _)
  have hnew : intE.flat (l.take i ++ [x] ++ l.drop i) = (intE.flat l).take i ++ [Value.int .i64 x] ++ (intE.flat l).drop i := by
    rw [flat_int, hfl]
    simp [List.map_take, List.map_drop]
  have hll : (l.take i ++ [x] ++ l.drop i).length = l.length + 1 := by
    rw [List.length_append, List.length_append, List.length_take, List.length_drop, List.length_singleton]; omega
  obtain ⟨hR, hBk⟩ := id hO
  rcases hR with ⟨_, ⟨rfl, hn0⟩ | ⟨g, cp, cur, rfl, _, hbk, hle, hm, hcs, htk⟩⟩
  · obtain rfl : l = [] := List.eq_nil_of_length_eq_zero hn0
    obtain rfl : i = 0 := by simpa using hi
    have k := Any2.slices_Insert_int_end_grow Try.laysIns none 0 0 vb 0 1 1 [] [.int .i64 x] w (by decide) (Nat.le_refl _) (by decide) (by decide) rfl rfl (fun _ => rfl) (fun a ha => by cases ha) hvs h1v
    refine Calls.mono k ?_
    rintro e w' ⟨rfl, rfl⟩
    have hG := grownCap_ge w (0 + 1) 0 3
    have hG2 := grownCap_le_maxLen w (0 + 1) 0 3 (by unfold maxLen; decide)
    have hGe : grownCap w (0 + 1) 0 (Try.laysIns_ren.t 3) = grownCap w (0 + 1) 0 3 := rfl
    rw [hGe]
    generalize grownCap w (0 + 1) 0 3 = G at *
    have hb : Below w.heap.size w (w.drew.alloc (.cells (([] ++ [Value.int .i64 x]).toArray ++ Builtin.zeroCells (Value.int .i64 0).cells (G - (0 + 1))) 3)) := (Below.refl _ _).drew.alloc (Nat.le_refl _) _
    refine ⟨_, rfl, row_new (w1 := w.drew) (ls := [x]) hn (by simp [El.flat, intE]) (by rw [Array.size_append, zeroCells_size]; simp [Value.cells]; omega) hG hG2, ⟨hb.os, hb.tape, hb.output, hb.size, fun k hk _ => hb.block k hk⟩, fun k hk => .inr ?_⟩
    cases hk
    exact Nat.le_refl _
  · have hgw : g < w.heap.size := (Array.getElem?_eq_some_iff.1 hbk).1
    have hcs1 : cur.size = cp := by rw [hcs]; exact Nat.mul_one cp
    have htk1 : cur.toList.take l.length = intE.flat l := by rw [← htk]; congr 1; exact (Nat.mul_one _).symm
    have hcell : ∀ j u, (intE.flat l)[j]? = some u → w.cell? ⟨g, 0 + j, none⟩ = some u := fun j u hj => by
      have hj2 := (List.getElem?_eq_some_iff.1 hj).1
      rw [Nat.zero_add, cells_of_block hbk, ← hj, ← htk1, List.getElem?_take_of_lt (by rw [hcl] at hj2; exact hj2)]
      simp
    have hvg : vb ≠ g := fun e => hvb (by rw [e]; rfl)
    by_cases hend : i = l.length
    · subst hend
      have hne : intE.flat (l.take l.length ++ [x] ++ l.drop l.length) = intE.flat l ++ [Value.int .i64 x] := by rw [flat_int, hfl]; simp
      by_cases hroom : l.length + 1 ≤ cp
      · have k := Any2.slices_Insert_int_end_room Try.laysIns g 0 l.length cp vb 0 1 1 [.int .i64 x] w (by decide) hroom hm rfl (fun j hj => by
          rw [cells_of_block hbk, Array.getElem?_eq_getElem (by omega)]; rfl) (fun j hj => frozen_of hbk _) hvs h1v
        refine Calls.mono k ?_
        rintro e w' ⟨rfl, rfl⟩
        obtain ⟨cur', h1, h2⟩ := setCells_row g 3 [.int .i64 x] (0 + l.length) w cur hbk (by simp; omega)
        have hb : Below 0 w (w.setCells g (0 + l.length) [.int .i64 x]) := below_setCells (Nat.zero_le _) _ _ (Below.refl 0 w)
        refine ⟨_, rfl, ⟨⟨El.flat_length intE _, .inr ⟨g, cp, cur', by rw [hll], Nat.zero_le _, h1, by rw [hll]; exact hroom, hm, ?_, ?_⟩⟩, fun k hk => hBk k hk⟩, ⟨hb.os, hb.tape, hb.output, hb.size, fun k hk hne => World.heap_setCells_other w g _ _ hk fun e => hne (by rw [e]; rfl)⟩, fun k hk => .inl hk⟩
        · rw [← Array.length_toList, h2]
          simp
          omega
        · rw [hne, show (l.take l.length ++ [x] ++ l.drop l.length).length * intE.k = l.length + 1 by rw [hll]; exact Nat.mul_one _, h2, Nat.zero_add, htk1, List.take_append_of_le_length (by simp [hcl])]
          exact List.take_of_length_le (by simp [hcl])
      · have k := Any2.slices_Insert_int_end_grow Try.laysIns (some ⟨g, 0, none⟩) l.length cp vb 0 1 1 (intE.flat l) [.int .i64 x] w (by decide) hle (by omega) (by omega) hcl rfl (fun h => by cases h) (fun a ha j u hj => by cases ha; rw [Addr.add_lit]; exact hcell j u hj) hvs h1v
        refine Calls.mono k ?_
        rintro e w' ⟨rfl, rfl⟩
        have hG := grownCap_ge w (l.length + 1) cp 3
        have hG2 := grownCap_le_maxLen w (l.length + 1) cp 3 (by unfold maxLen; omega)
        have hb : Below w.heap.size w (w.drew.alloc (.cells ((intE.flat l ++ [Value.int .i64 x]).toArray ++ Builtin.zeroCells (Value.int .i64 0).cells (grownCap w (l.length + 1) cp 3 - (l.length + 1))) 3)) := (Below.refl _ _).drew.alloc (Nat.le_refl _) _
        have hr := row_new (n0 := n0) (w1 := w.drew) (ls := l.take l.length ++ [x] ++ l.drop l.length) (arr := (intE.flat l ++ [Value.int .i64 x]).toArray ++ Builtin.zeroCells (Value.int .i64 0).cells (grownCap w (l.length + 1) cp 3 - (l.length + 1))) (G := grownCap w (l.length + 1) cp 3) hn (by
          rw [hll, hne, Array.toList_append]
          show ((intE.flat l ++ [Value.int .i64 x]) ++ _).take (l.length + 1) = _
          rw [List.take_append_of_le_length (by simp [hcl])]
          exact List.take_of_length_le (by simp [hcl])) (by rw [Array.size_append, zeroCells_size]; simp [Value.cells, hcl]; omega) (by rw [hll]; exact hG) hG2
        rw [hll] at hr
        refine ⟨_, rfl, hr, ⟨hb.os, hb.tape, hb.output, hb.size, fun k hk _ => hb.block k hk⟩, fun k hk => .inr ?_⟩
        cases hk
        exact Nat.le_refl _
    · have hilt : i < l.length := by omega
      by_cases hroom : l.length + 1 ≤ cp
      · have k := Any2.slices_Insert_int_shift Try.laysIns g 0 l.length cp i vb 0 1 1 (intE.flat l) [.int .i64 x] w hilt (by decide) hroom hm hvg hcl rfl hcell (fun j hj => by
          rw [cells_of_block hbk, Array.getElem?_eq_getElem (by omega)]; rfl) (fun j hj => frozen_of hbk _) hvs h1c h1v 3 3 1 cp (by unfold World.shape?; rw [hx]; rfl) (by unfold World.shape?; rw [hbk]; show some (_, cur.size) = _; rw [hcs1]) (by omega) (frozen_of hx _) (frozen_of hx _)
        refine Calls.mono k ?_
        rintro e w' ⟨rfl, rfl⟩
        have hdl : ((intE.flat l).drop i).length = l.length - i := by rw [List.length_drop, hcl]
        obtain ⟨cur1, h1, h2⟩ := setCells_row g 3 ((intE.flat l).drop i) (0 + (i + 1)) w.drew cur hbk (by rw [hdl]; omega)
        have hs1 : cur1.size = cp := by
          rw [← Array.length_toList, h2]
          simp only [List.length_append, List.length_take, List.length_drop, Array.length_toList, hcl]
          omega
        obtain ⟨cur', h3, h4⟩ := setCells_row g 3 [.int .i64 x] (0 + i) _ cur1 h1 (by simp; omega)
        have hb : Below 0 w ((w.drew.setCells g (0 + (i + 1)) ((intE.flat l).drop i)).setCells g (0 + i) [.int .i64 x]) := below_setCells (Nat.zero_le _) _ _ (below_setCells (Nat.zero_le _) _ _ (Below.refl 0 w).drew)
        have hT : cur'.toList.take (l.length + 1) = (intE.flat l).take i ++ [Value.int .i64 x] ++ (intE.flat l).drop i := by
          rw [h4, h2, Nat.zero_add, Nat.zero_add]
          have e1 : (cur.toList.take (i + 1) ++ (intE.flat l).drop i ++ cur.toList.drop (i + 1 + ((intE.flat l).drop i).length)).take i = (intE.flat l).take i := by
            rw [List.append_assoc, List.take_append_of_le_length (by rw [List.length_take, Array.length_toList]; omega), List.take_take, Nat.min_eq_left (by omega), ← htk1, List.take_take, Nat.min_eq_left (by omega)]
          have e2 : (cur.toList.take (i + 1) ++ (intE.flat l).drop i ++ cur.toList.drop (i + 1 + ((intE.flat l).drop i).length)).drop (i + [Value.int .i64 x].length) = (intE.flat l).drop i ++ cur.toList.drop (i + 1 + ((intE.flat l).drop i).length) := by
            rw [List.append_assoc, List.drop_append, List.drop_of_length_le (by rw [List.length_take, Array.length_toList]; simp; omega), List.nil_append, List.length_take, Array.length_toList]
            simp
            rw [show i + 1 - min (i + 1) cur.size = 0 by omega]
            simp
          rw [e1, e2, ← List.append_assoc, List.take_append_of_le_length (by simp [hcl]; omega)]
          exact List.take_of_length_le (by simp [hcl]; omega)
        refine ⟨_, rfl, ⟨⟨El.flat_length intE _, .inr ⟨g, cp, cur', by rw [hll], Nat.zero_le _, h3, by rw [hll]; exact hroom, hm, ?_, ?_⟩⟩, fun k hk => hBk k hk⟩, ⟨hb.os, hb.tape, hb.output, hb.size, fun k hk hne => (World.heap_setCells_other _ g _ _ (by rw [show (w.drew.setCells g (0 + (i + 1)) ((intE.flat l).drop i)).heap.size = w.heap.size from (below_setCells_size _ _ _ _)]; exact hk) fun e => hne (by rw [e]; rfl)).trans (World.heap_setCells_other w.drew g _ _ hk fun e => hne (by rw [e]; rfl))⟩, fun k hk => .inl hk⟩
        · rw [← Array.length_toList, h4]
          simp only [List.length_append, List.length_take, List.length_drop, Array.length_toList, hs1, List.length_singleton]
          show _ = cp * 1
          omega
        · rw [hnew, show (l.take i ++ [x] ++ l.drop i).length * intE.k = l.length + 1 by rw [hll]; exact Nat.mul_one _]
          exact hT
      · have k := Any2.slices_Insert_int_grow Try.laysIns g 0 l.length cp i vb 0 1 1 (intE.flat l) [.int .i64 x] w hilt (by decide) hle (by omega) (by omega) hcl rfl hcell hvs h1c h1v
        refine Calls.mono k ?_
        rintro e w' ⟨rfl, rfl⟩
        have hG := grownCap_ge w (l.length + 1) cp 3
        have hG2 := grownCap_le_maxLen w (l.length + 1) cp 3 (by unfold maxLen; omega)
        have hGe : grownCap w (l.length + 1) cp (Try.laysIns_ren.t 3) = grownCap w (l.length + 1) cp 3 := rfl
        generalize grownCap w (l.length + 1) cp 3 = G at *
        rw [hGe]
        have hdl : ((intE.flat l).drop i).length = l.length - i := by rw [List.length_drop, hcl]
        obtain ⟨arr, harr⟩ : ∃ arr, arr = ((intE.flat l).take i).toArray ++ Builtin.zeroCells (Value.int .i64 0).cells (l.length + 1 - i) ++ Builtin.zeroCells (Value.int .i64 0).cells (G - (l.length + 1)) := ⟨_, rfl⟩
        have hat : (Try.laysIns_ren.t 3) = 3 := rfl
        rw [← harr, hat]
        have hsz : arr.size = G := by
          rw [harr, Array.size_append, Array.size_append, zeroCells_size, zeroCells_size]
          simp [Value.cells, hcl]
          omega
        have hta : arr.toList.take i = (intE.flat l).take i := by
          rw [harr, Array.toList_append, Array.toList_append, List.append_assoc]
          show ((intE.flat l).take i ++ _).take i = _
          rw [List.take_append_of_le_length (by simp [hcl]; omega)]
          exact List.take_of_length_le (by rw [List.length_take]; omega)
        obtain ⟨cur1, h1, h2⟩ := setCells_row w.heap.size 3 [.int .i64 x] i (w.alloc (.cells arr 3)).drew arr (heap_alloc_new w _) (by simp; omega)
        have hs1 : cur1.size = G := by
          rw [← Array.length_toList, h2]
          simp only [List.length_append, List.length_take, List.length_drop, Array.length_toList, List.length_singleton]
          omega
        obtain ⟨cur', h3, h4⟩ := setCells_row w.heap.size 3 ((intE.flat l).drop i) (i + 1) ((w.alloc (.cells arr 3)).drew.setCells w.heap.size i [.int .i64 x]).drew cur1 h1 (by rw [hdl]; omega)
        have hb : Below w.heap.size w ((((w.alloc (.cells arr 3)).drew.setCells w.heap.size i [.int .i64 x]).drew).setCells w.heap.size (i + 1) ((intE.flat l).drop i)) := below_setCells (Nat.le_refl _) _ _ (below_setCells (Nat.le_refl _) _ _ ((Below.refl _ w).alloc (Nat.le_refl _) _).drew).drew
        have hT : cur'.toList.take (l.length + 1) = (intE.flat l).take i ++ [Value.int .i64 x] ++ (intE.flat l).drop i := by
          rw [h4, h2]
          have e1 : (arr.toList.take i ++ [Value.int .i64 x] ++ arr.toList.drop (i + [Value.int .i64 x].length)).take (i + 1) = (intE.flat l).take i ++ [Value.int .i64 x] := by
            rw [List.take_append_of_le_length (by simp [hsz]; omega), hta]
            exact List.take_of_length_le (by simp [hcl]; omega)
          rw [e1, List.take_append_of_le_length (by simp [hcl]; omega)]
          exact List.take_of_length_le (by simp [hcl]; omega)
        refine ⟨_, rfl, ⟨⟨El.flat_length intE _, .inr ⟨w.heap.size, G, cur', by rw [hll], Nat.zero_le _, h3, by rw [hll]; exact hG, hG2, ?_, ?_⟩⟩, fun k hk => by cases hk; exact hn⟩, ⟨hb.os, hb.tape, hb.output, hb.size, fun k hk _ => hb.block k hk⟩, fun k hk => .inr (by cases hk; exact Nat.le_refl _)⟩
        · rw [← Array.length_toList, h4]
          simp only [List.length_append, List.length_take, List.length_drop, Array.length_toList, hs1, hcl]
          show _ = G * 1
          omega
        · rw [hnew, show (l.take i ++ [x] ++ l.drop i).length * intE.k = l.length + 1 by rw [hll]; exact Nat.mul_one _]
          exact hT
end Go.Proofs.Ytglbjimpaoikfaa

