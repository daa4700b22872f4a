import Derived.Test.YtgfoogeiancecaaGreatDoorHw02
import Derived.Test.YtgfoogeiancecaaGreatDoorHw03
import Derived.Test.YtgfoogeiancecaaGreatDoorHw13
import Derived.Lib.SmallJoins
import Derived.Lib.AtoiErrMem
import Derived.Lib.AppendIntMem
import Derived.Laws.IdiomStrings
import Derived.Test.YtgfoogeiancecaaGreatDoorHw18
import Derived.Deep.RegionHeld3
import Derived.Deep.RegionLaw
/- The contracts of the program's nameOf and numberOf: a segment's name, and its number. -/
namespace Go.Proofs.YtgfoogeiancecaaGreatDoor
open Go.RowKit DiskMath
set_option maxRecDepth 100000
set_option linter.unusedSimpArgs false
set_option linter.unusedVariables false

/-- The tables that the program reads: of sums, and of powers of ten. -/
def Tb (w : World) : Prop := Fr.Tab w ∧ Lib.TabIs Tryz.prog w "internal/strconv.uint64pow10" .u64 Lib.pow10Tab
theorem pow_at : Tryz.prog.globalNamed "internal/strconv.uint64pow10" = some 1 := by kernel_rfl
theorem Tb.below {n : Nat} {w w' : World} (h : Tb w) (hb : Below n w w') (hn : 2 ≤ n) : Tb w' := by
  refine ⟨h.1.below hb (by omega), ?_⟩
  have h2 := h.2
  unfold Lib.TabIs World.var? at h2 ⊢
  rw [pow_at] at h2 ⊢
  simp only [Option.bind_some] at h2 ⊢
  rw [hb.block 1 (by omega)]
  exact h2
theorem Tb.two {w : World} (h : Tb w) : 2 ≤ w.heap.size := by
  have h2 := h.2
  unfold Lib.TabIs World.var? at h2
  rw [pow_at] at h2
  simp only [Option.bind_some] at h2
  have h1 := h.1.pos
  rcases Nat.lt_or_ge 1 w.heap.size with h' | h'
  · omega
  · rw [Array.getElem?_eq_none h'] at h2; cases h2
theorem Tb.new {w w' : World} (h : Tb w) (hb : Below w.heap.size w w') : Tb w' := h.below hb h.two
theorem Tb.drewN {w : World} (h : Tb w) (k : Nat) : Tb (w.drewN k) := h.below (below_drewN (Below.refl w.heap.size w) k) h.two

theorem itoa_name (n : Nat) (hn : n < 100000000) : ∃ S : ByteArray, (⟨(Lib.itoa (100000000 + (n : Int))).toArray⟩ : ByteArray) = S ∧ S.size = 9 ∧ (⟨#[119, 97, 108, 45]⟩ : ByteArray) ++ S.extract 1 9 = segName n := by
  have e1 : Lib.itoa (100000000 + (n : Int)) = 49 :: (digs 8 n).map UInt8.ofNat := by
    have e0 : (100000000 + (n : Int)) = ((10 ^ 8 + n : Nat) : Int) := by omega
    unfold Lib.itoa
    rw [e0, if_neg (by omega), Int.toNat_natCast]
    exact dec_digs 8 n hn
  have hl : ((digs 8 n).map UInt8.ofNat).length = 8 := by rw [List.length_map, digs_length]
  refine ⟨_, rfl, ?_, ?_⟩
  · show (Lib.itoa _).toArray.size = 9
    rw [e1]
    simp [digs_length]
  · rw [e1]
    apply ByteArray.ext
    rw [← Array.toList_inj, segName_list]
    generalize (digs 8 n).map UInt8.ofNat = D at *
    have h9 : (9 : Nat) = 1 + D.length := by omega
    rw [h9]
    simp [ByteArray.data_append, ByteArray.data_extract]

set_option maxHeartbeats 1000000 in
theorem nameOf_of (n : Nat) (w : World) (hT : Tb w) (hn : n < 100000000) : Calls Tryz.prog 47 #[.int .i64 (n : Int)] w fun e w' => e = .returned (.string (segName n)) ∧ Below w.heap.size w w' := by
  have hi := Tryz.strconv_Itoa (100000000 + (n : Int)) (by omega) (by omega) w hT.2
  have q1 : IntKind.i64.wrap (100000000 + (n : Int)) = 100000000 + (n : Int) := IntWalk.i64_in _ (by omega)
  obtain ⟨S, hS, h9, hR⟩ := itoa_name n hn
  rw [hS] at hi
  have hR' : Hid (_ = segName n) := hR
  have h9' : Hid (S.size = 9) := h9
  have hi9 : (1 : Int) ≤ (S.size : Int) := by omega
  have hj9 : 1 ≤ S.size := by omega
  have hk9 : ¬ 9223372036854775807 < 4 + (S.size - 1) := by omega
  generalize segName n = R at *
  clear hT hR h9 hS
  go_enter Tryz.func47, Tryz.ntmps47
  go_wp2_with fail
  refine hi.mono ?_
  rintro e w1 ⟨rfl, k, os, hw1⟩
  have hb : Below w.heap.size w w1 := by rw [hw1]; exact Lib.below_grow _ _ (Nat.le_refl _) _ _
  clear hw1 hi
  go_wp2
  go_ret
  exact ⟨by rw [← hR'.out, h9'.out]; rfl, hb⟩

theorem parse_name (n : Nat) (hn : n < 100000000) : Lib.parseUintB 32 ((digs 8 n).map UInt8.ofNat) = .ok n := by
  unfold Lib.parseUintB
  have hl : ((digs 8 n).map UInt8.ofNat).length = 8 := by rw [List.length_map, digs_length]
  rw [if_neg (by intro e; rw [e] at hl; cases hl), parse_digs (2 ^ 32 - 1) (by decide) 8 0 n (by rw [Nat.mod_eq_of_lt (by omega)]; omega), Nat.mod_eq_of_lt (by omega)]
  simp

set_option maxHeartbeats 1000000 in
theorem numberOf_of (n : Nat) (w : World) (hn : n < 100000000) (h0 : 0 < n) : Calls Tryz.prog 82 #[.string (segName n)] w fun e w' => e = .returned (.tuple #[.int .i64 (n : Int), .bool true]) ∧ Below w.heap.size w w' := by
  have hc := Tryz.strings_CutPrefix (segName n) ⟨#[119, 97, 108, 45]⟩ w
  have hp : Lib.hasPrefix (segName n).data.toList [119, 97, 108, 45] = true := by
    rw [segName_list]
    unfold Lib.hasPrefix
    rw [List.isPrefixOf_iff_prefix]
    exact List.prefix_append _ _
  have ht : Lib.trimPrefix (segName n).data.toList [119, 97, 108, 45] = (digs 8 n).map UInt8.ofNat := by
    unfold Lib.trimPrefix
    rw [if_pos hp, segName_list]
    rfl
  rw [show (⟨#[119, 97, 108, 45]⟩ : ByteArray).data.toList = [119, 97, 108, 45] from rfl, hp, ht] at hc
  obtain ⟨D, hD, hD8, hk⟩ : ∃ D : ByteArray, (⟨((digs 8 n).map UInt8.ofNat).toArray⟩ : ByteArray) = D ∧ Hid (D.size = 8) ∧ Calls Tryz.prog 105 #[.string D, .int .i64 10, .int .i64 32] w fun e w' => e = .returned (.tuple #[.int .u64 n, .nilIface]) ∧ (w' = w ∨ w' = Lib.bytesWorld w 5 D) := by
    refine ⟨_, rfl, ?_, Tryz.strconv_ParseUint_10_at32_ok _ ?_ n ?_ w⟩
    · show Array.size _ = 8
      simp [digs_length]
    · show Array.size _ ≤ _
      simp [digs_length]
    · exact parse_name n hn
  rw [hD] at hc
  have h8 : ((D.size : Int) != 8) = false := by rw [hD8.out]; rfl
  have h8' : (D.size : Int) = 8 := by rw [hD8.out]; rfl
  have hn0 : ((n : Int) == 0) = false := by simp; omega
  have hn1 : ¬ (n : Int) = 0 := by omega
  have q1 : IntKind.i64.wrap (n : Int) = (n : Int) := IntWalk.i64_in _ (by omega)
  clear hp ht hD
  generalize segName n = R at *
  go_enter Tryz.func82, Tryz.ntmps82
  go_wp2_with fail
  refine hc.mono ?_
  rintro e w1 ⟨rfl, hw1⟩
  rw [hw1]
  clear hw1 w1 hc
  go_wp2_with fail
  refine hk.mono ?_
  rintro e w1 ⟨rfl, hw1⟩
  have hb : Below w.heap.size w w1 := by
    rcases hw1 with h | h
    · rw [h]; exact Below.refl _ _
    · rw [h]; exact Lib.bytesWorld_below _ _ _
  clear hw1 hk
  go_wp2
  go_ret2
  exact ⟨rfl, hb⟩
end Go.Proofs.YtgfoogeiancecaaGreatDoor

/- What a segment tells: its last record, where its records end, how great it is, its name. -/
namespace Go.Proofs.YtgfoogeiancecaaGreatDoor
open Go.RowKit
set_option maxRecDepth 100000
set_option linter.unusedSimpArgs false
set_option linter.unusedVariables false

/-- append by its run: in the open, and in a region that draws its order. -/
theorem wp_by {w : World} {ops : Array Oper} {rest : List Oper} {o : Oper} {a : Act} {Q : Exit → Act → World → Prop} {Φ : Value → World → Prop} (hgd : o.guard = none) (s x : Operand) (ts : TypeId)
    (ho : o.op = .call { callee := .builtin .append, args := #[s, x], argTypes := #[ts, ts] }) (v xv : Value) (hs : a.eval s = v) (hx : a.eval x = xv)
    (hrun : ∀ ty, ∃ v' w', (Builtin.append_ #[ts, ts] ty #[v, xv]).run Tryz.prog w = .ok v' w' ∧ Φ v' w')
    (h : ∀ v' w', Φ v' w' → wpList Tryz.prog ops Q rest (a.put o.dst v') w') : wpList Tryz.prog ops Q (o :: rest) a w := by
  obtain ⟨v', w', hr, hφ⟩ := hrun o.type
  refine wpList_plain hgd fun K hK' => ?_
  unfold Oper.wp
  simp [execOp, ho, resolve, invoke, builtin, hs, hx, hr, Result.andThen]
  exact hK' _ _ (h v' w' hφ)
theorem step_by {ops : Array Oper} {o : Oper} {a : Act} {w : World} {K : Act → World → Prop} {Q : Exit → Act → World → Prop} {E : Prop} {Φ : Value → World → Prop}
    (hg : o.guard = none) (s x : Operand) (ts : TypeId) (ho : o.op = .call { callee := .builtin .append, args := #[s, x], argTypes := #[ts, ts] })
    (v xv : Value) (hs : a.eval s = v) (hx : a.eval x = xv)
    (hrun : ∀ ty, ∃ v' w', (Builtin.append_ #[ts, ts] ty #[v, xv]).run Tryz.prog w = .ok v' w' ∧ Φ v' w')
    (hK : ∀ v' w', Φ v' w' → K (a.put o.dst v') w') :
    if Region.wanted o (yielded ops a.tmps) = true then Oper.wp Tryz.prog o a w K Q else E := by
  have hw : Region.wanted o (yielded ops a.tmps) = true := by simp [Region.wanted, hg]
  rw [if_pos hw]
  obtain ⟨v', w', hr, hφ⟩ := hrun o.type
  unfold Oper.wp
  simp [execOp, ho, resolve, invoke, builtin, hs, hx, hr, Result.andThen]
  exact hK v' w' hφ

/-- Places as they are read: indexes, and where frames end. -/
def Pv (w : World) (v : Value) (l : List (Nat × Nat)) : Prop :=
  ∃ ao cap, v = .slice ao l.length cap ∧ ∀ (i : Nat) (x : Nat × Nat), l[i]? = some x → ∃ b, ao = some ⟨b, 0, none⟩ ∧ w.cell? ⟨b, i * 2, none⟩ = some (.int .u64 (x.1 : Int)) ∧ w.cell? ⟨b, i * 2 + 1, none⟩ = some (.int .i64 (x.2 : Int))
theorem Pv.below {w w' : World} {v : Value} {l : List (Nat × Nat)} (h : Pv w v l) (hb : Below w.heap.size w w') : Pv w' v l := by
  obtain ⟨ao, cap, e, h2⟩ := h
  refine ⟨ao, cap, e, fun i x hx => ?_⟩
  obtain ⟨b, r1, r2, r3⟩ := h2 i x hx
  exact ⟨b, r1, (hb.cell (p := ⟨b, i * 2, none⟩) (World.block_lt_of_cell? w _ r2)).trans r2, (hb.cell (p := ⟨b, i * 2 + 1, none⟩) (World.block_lt_of_cell? w _ r3)).trans r3⟩
/-- Places as cells. -/
def pl2 (l : List (Nat × Nat)) : List (Value × Value) := l.map fun x => (.int .u64 (x.1 : Int), .int .i64 (x.2 : Int))
theorem R2.pv {w : World} {v : Value} {l : List (Nat × Nat)} (h : R2 w 109 v (pl2 l)) : Pv w v l := by
  obtain ⟨ao, cap, e, -⟩ := h.shape
  refine ⟨ao, cap, by rw [e]; simp [pl2], fun i x hx => ?_⟩
  have hx' : (pl2 l)[i]? = some (.int .u64 (x.1 : Int), .int .i64 (x.2 : Int)) := by simp [pl2, hx]
  obtain ⟨g, cp, e2, -, -, -, hc, -⟩ := h.cells (by intro h0; rw [h0] at hx'; simp at hx')
  rw [e] at e2
  simp only [Value.slice.injEq] at e2
  exact ⟨g, e2.1, (hc i _ hx').1, (hc i _ hx').2⟩

/-- The last place's index; 0: there is none. -/
def lastI (l : List (Nat × Nat)) : Nat := (l.getLast?.map Prod.fst).getD 0
/-- Where the first n end. -/
def endI (l : List (Nat × Nat)) : Nat → Nat
  | 0 => 0
  | n + 1 => (l[n]?.map Prod.snd).getD 0

set_option maxHeartbeats 1000000 in
theorem slast_of (k : Int) (v : Value) (l : List (Nat × Nat)) (w : World) (h : Pv w v l) (hl : l.length ≤ 1000000) :
    Calls Tryz.prog 25 #[.agg #[.int .i64 k, v]] w fun e w' => e = .returned (.int .u64 (lastI l : Int)) ∧ Below w.heap.size w w' := by
  obtain ⟨ao, cap, rfl, hc⟩ := h
  have hb := (Below.refl w.heap.size w).alloc (Nat.le_refl _) (.cells #[.int .i64 k, .slice ao l.length cap] 62)
  by_cases h0 : l.length = 0
  · obtain rfl := List.eq_nil_of_length_eq_zero h0
    go_enter Tryz.func25, Tryz.ntmps25
    go_wp2
    go_ret
    exact ⟨rfl, hb⟩
  · obtain ⟨n, hn⟩ : ∃ n, Hid (l.length = n + 1) := ⟨l.length - 1, by show _ = _; omega⟩
    have hnl : n < l.length := by have := hn.out; omega
    have hx := List.getElem?_eq_getElem hnl
    have E : Hid (lastI l = l[n].1) := by
      show _ = _
      unfold lastI
      rw [List.getLast?_eq_getElem?, hn.out, Nat.add_sub_cancel, hx]
      rfl
    generalize l[n] = x at *
    obtain ⟨b, rfl, r2, r3⟩ := hc n x hx
    have hbl := World.block_lt_of_cell? w _ r2
    have r2' : (w.alloc (.cells #[.int .i64 k, .slice (some ⟨b, 0, none⟩) l.length cap] 62)).cell? ⟨b, n * 2, none⟩ = some (.int .u64 (x.1 : Int)) := (hb.cell (p := ⟨b, n * 2, none⟩) hbl).trans r2
    have q1 : IntKind.i64.wrap ((l.length : Int) - 1) = (n : Int) := by
      rw [hn.out, show ((n + 1 : Nat) : Int) - 1 = (n : Int) by omega]
      exact IntWalk.i64_in _ (by omega)
    have hni : (n : Int) < (l.length : Int) := by omega
    have hl1 : ¬ (l.length : Int) = 0 := by omega
    have hl0 : ((l.length : Int) == 0) = false := by rw [beq_eq_false_iff_ne]; exact hl1
    generalize lastI l = R at *
    clear hc hx
    go_enter Tryz.func25, Tryz.ntmps25
    go_wp2
    go_ret
    exact ⟨by rw [E.out]; rfl, hb⟩

set_option maxHeartbeats 1000000 in
theorem endOf_of (k : Int) (v : Value) (l : List (Nat × Nat)) (n : Nat) (w : World) (h : Pv w v l) (hn : n ≤ l.length) (hl : l.length ≤ 1000000) :
    Calls Tryz.prog 81 #[.agg #[.int .i64 k, v], .int .i64 (n : Int)] w fun e w' => e = .returned (.int .i64 (endI l n : Int)) ∧ Below w.heap.size w w' := by
  obtain ⟨ao, cap, rfl, hc⟩ := h
  have hb := (Below.refl w.heap.size w).alloc (Nat.le_refl _) (.cells #[.int .i64 k, .slice ao l.length cap] 62)
  cases n with
  | zero =>
    go_enter Tryz.func81, Tryz.ntmps81
    go_wp2
    go_ret
    exact ⟨rfl, hb⟩
  | succ n =>
    have hnl : n < l.length := by omega
    have hx := List.getElem?_eq_getElem hnl
    have E : Hid (endI l (n + 1) = l[n].2) := by
      show (l[n]?.map Prod.snd).getD 0 = _
      rw [hx]
      rfl
    generalize l[n] = x at *
    obtain ⟨b, rfl, r2, r3⟩ := hc n x hx
    have hbl := World.block_lt_of_cell? w _ r3
    have r3' : (w.alloc (.cells #[.int .i64 k, .slice (some ⟨b, 0, none⟩) l.length cap] 62)).cell? ⟨b, n * 2 + 1, none⟩ = some (.int .i64 (x.2 : Int)) := (hb.cell (p := ⟨b, n * 2 + 1, none⟩) hbl).trans r3
    obtain ⟨m, hm⟩ : ∃ m : Nat, Hid (m = n + 1) := ⟨_, rfl⟩
    have q1 : IntKind.i64.wrap ((m : Int) - 1) = (n : Int) := by
      rw [hm.out, show ((n + 1 : Nat) : Int) - 1 = (n : Int) by omega]
      exact IntWalk.i64_in _ (by omega)
    have hni : (n : Int) < (l.length : Int) := by omega
    have hl0 : ((m : Int) == 0) = false := by have := hm.out; simp; omega
    have hl1 : ¬ (m : Int) = 0 := by have := hm.out; omega
    rw [← hm.out]
    rw [← hm.out] at E
    generalize endI l m = R at *
    clear hc hx hn
    go_enter Tryz.func81, Tryz.ntmps81
    go_wp2
    go_ret
    exact ⟨by rw [E.out]; rfl, hb⟩

set_option maxHeartbeats 1000000 in
theorem ssize_of (k : Int) (v : Value) (l : List (Nat × Nat)) (w : World) (h : Pv w v l) (hl : l.length ≤ 1000000) :
    Calls Tryz.prog 60 #[.agg #[.int .i64 k, v]] w fun e w' => e = .returned (.int .i64 (endI l l.length : Int)) ∧ Below w.heap.size w w' := by
  have hb := (Below.refl w.heap.size w).alloc (Nat.le_refl _) (.cells #[.int .i64 k, v] 62)
  have he := endOf_of k v l l.length _ (h.below hb) (Nat.le_refl _) hl
  obtain ⟨ao, cap, rfl, hc⟩ := h
  clear hc
  generalize endI l l.length = R at *
  go_enter Tryz.func60, Tryz.ntmps60
  go_wp2_with fail
  refine he.mono ?_
  rintro e w1 ⟨rfl, hb1⟩
  go_wp2
  go_ret
  exact ⟨rfl, hb.trans (hb1.mono hb.size)⟩

set_option maxHeartbeats 1000000 in
theorem sname_of (n : Nat) (v : Value) (w : World) (hT : Tb w) (hn : n < 100000000) :
    Calls Tryz.prog 28 #[.agg #[.int .i64 (n : Int), v]] w fun e w' => e = .returned (.string (segName n)) ∧ Below w.heap.size w w' := by
  have hb := (Below.refl w.heap.size w).alloc (Nat.le_refl _) (.cells #[.int .i64 (n : Int), v] 62)
  have he := nameOf_of n _ (hT.new hb) hn
  generalize segName n = R at *
  clear hT
  go_enter Tryz.func28, Tryz.ntmps28
  go_wp2_with fail
  refine he.mono ?_
  rintro e w1 ⟨rfl, hb1⟩
  go_wp2
  go_ret
  exact ⟨rfl, hb.trans (hb1.mono hb.size)⟩
end Go.Proofs.YtgfoogeiancecaaGreatDoor

/- The contract of a segment's add: the place of one more record. -/
namespace Go.Proofs.YtgfoogeiancecaaGreatDoor
open Go.RowKit
set_option maxRecDepth 100000
set_option linter.unusedSimpArgs false
set_option linter.unusedVariables false

/-- What add leaves: the places' row, one longer, at the segment at ⟨p, o⟩. -/
def AddT (w : World) (p o : Nat) (pv : Value) (l : List (Nat × Nat)) (e : Ending) (w' : World) : Prop :=
  e = .returned (.tuple #[]) ∧ ∃ pv' w1, w' = w1.setCell ⟨p, o + 1, none⟩ pv' ∧ R2 w1 109 pv' (pl2 l) ∧ w.grownBy w1 pv.ownBlock ∧ ∀ k, pv'.ownBlock = some k → pv.ownBlock = some k ∨ w.heap.size ≤ k

theorem cell_grown {w w' : World} {row : Option Nat} {a : Addr} {v : Value} (hg : w.grownBy w' row) (h : w.cell? a = some v) (hr : row ≠ some a.block) : w'.cell? a = some v := hg.cell h (fun e => hr e.symm)
theorem frozen_same {w w' : World} {p : Nat} (i : Nat) (h : w'.heap[p]? = w.heap[p]?) : w'.frozen? ⟨p, i, none⟩ = w.frozen? ⟨p, i, none⟩ := by simp [World.frozen?, h]
theorem grown_of_below {w w1 w2 : World} {row : Option Nat} (hb : Below w.heap.size w w1) (hg : w1.grownBy w2 row) : w.grownBy w2 row :=
  ⟨hg.os.trans hb.os, hg.tape.trans hb.tape, hg.output.trans hb.output, Nat.le_trans hb.size hg.size, fun i hi hne => (hg.block i (Nat.lt_of_lt_of_le hi hb.size) hne).trans (hb.block i hi)⟩
theorem pl2_append (l r : List (Nat × Nat)) : pl2 (l ++ r) = pl2 l ++ pl2 r := by simp [pl2]
theorem pl2_length (l : List (Nat × Nat)) : (pl2 l).length = l.length := by simp [pl2]

set_option maxHeartbeats 4000000 in
theorem add_of (p o : Nat) (num : Int) (pv : Value) (l : List (Nat × Nat)) (idx sz : Nat) (w : World) (h0 : w.cell? ⟨p, o, none⟩ = some (.int .i64 num)) (h1 : w.cell? ⟨p, o + 1, none⟩ = some pv) (hf : w.frozen? ⟨p, o + 1, none⟩ = false)
    (hR : R2 w 109 pv (pl2 l)) (hp : pv.ownBlock ≠ some p) (hl : l.length ≤ 100000) (hs : endI l l.length + sz ≤ 1000000000) :
    Calls Tryz.prog 76 #[.pointer (some ⟨p, o, none⟩), .int .u64 (idx : Int), .int .i64 (sz : Int)] w (AddT w p o pv (l ++ [(idx, endI l l.length + sz)])) := by
  have hpl := World.block_lt_of_cell? w _ h1
  have hS : ∀ w', Below w.heap.size w w' → w'.cell? ⟨p, o, none⟩ = some (.int .i64 num) ∧ w'.cell? ⟨p, o + 1, none⟩ = some pv := fun w' hb => ⟨(hb.cell (p := ⟨p, o, none⟩) hpl).trans h0, (hb.cell (p := ⟨p, o + 1, none⟩) hpl).trans h1⟩
  have hdr : Below w.heap.size w w.drew := (Below.refl _ _).drew
  have ks := ssize_of num pv l w.drew (hR.pv.below hdr) (by omega)
  have q1 : IntKind.i64.wrap ((endI l l.length : Int) + (sz : Int)) = ((endI l l.length + sz : Nat) : Int) := by
    rw [show (endI l l.length : Int) + (sz : Int) = ((endI l l.length + sz : Nat) : Int) by omega]
    exact IntWalk.i64_in _ (by omega)
  generalize endI l l.length = E at *
  have kp : ∀ w2, Below w.heap.size w w2 → ∀ ty, ∃ v' w', (Builtin.append_ #[60, 60] ty #[pv, .slice (some ⟨w2.heap.size, 0, none⟩) 1 1]).run Tryz.prog (w2.alloc (.cells #[.int .u64 (idx : Int), .int .i64 ((E : Int) + (sz : Int))] 109)) = .ok v' w' ∧ (R2 w' 109 v' (pl2 (l ++ [(idx, E + sz)])) ∧ w.grownBy w' pv.ownBlock ∧ (∀ k, v'.ownBlock = some k → pv.ownBlock = some k ∨ w.heap.size ≤ k) ∧ w'.cell? ⟨p, o + 1, none⟩ = some pv ∧ w'.frozen? ⟨p, o + 1, none⟩ = false ∧ w'.cell? ⟨p, o, none⟩ = some (.int .i64 num) ∧ ∃ a n c, v' = .slice a n c) := fun w2 hb2 ty => by
    have hR2 : R2 w2 109 pv (pl2 l) := hR.same fun k hk => hb2.block k (hR.lt hk)
    obtain ⟨v', w', r1, r2, r3, r4⟩ := push_place w2 ty pv (pl2 l) (.int .u64 (idx : Int), .int .i64 ((E : Int) + (sz : Int))) hR2 (by rw [pl2_length]; omega) rfl rfl
    have hg := grown_of_below hb2 r3
    refine ⟨v', w', r1, by rw [pl2_append, show pl2 [(idx, E + sz)] = [(.int .u64 (idx : Int), .int .i64 ((E : Int) + (sz : Int)))] by simp [pl2]]; exact r2, hg, fun k hk => (r4 k hk).imp id fun h => Nat.le_trans hb2.size h, cell_grown hg h1 hp, ?_, cell_grown hg h0 hp, ?_⟩
    · rw [frozen_same (o + 1) (hg.block p hpl (fun e => hp e.symm))]
      exact hf
    · obtain ⟨a, c, e, -⟩ := r2.shape
      exact ⟨a, _, c, e⟩
  have fin : ∀ v' w', R2 w' 109 v' (pl2 (l ++ [(idx, E + sz)])) → w.grownBy w' pv.ownBlock → (∀ k, v'.ownBlock = some k → pv.ownBlock = some k ∨ w.heap.size ≤ k) → Hid (AddT w p o pv (l ++ [(idx, E + sz)]) (.returned (.tuple #[])) (w'.setCell ⟨p, o + 1, none⟩ v')) := fun v' w' r1 r2 r3 => ⟨rfl, v', w', rfl, r1, r2, r3⟩
  have y0 := hS _ hdr
  have hsh : ∃ ao cap, pv = .slice ao l.length cap := by
    obtain ⟨ao, cap, e, -⟩ := hR.shape
    exact ⟨ao, cap, by rw [e, pl2_length]⟩
  obtain ⟨ao, cap, rfl⟩ := hsh
  generalize AddT w p o (.slice ao l.length cap) (l ++ [(idx, E + sz)]) = T at *
  clear hR hf h0 h1
  go_enter Tryz.func76, Tryz.ntmps76
  go_wp2
  obtain ⟨z0, z1⟩ := hS _ hdr
  go_region_law (first
      | (refine step_by (by rfl) _ _ _ (by rfl) (.slice ao l.length cap) _ (by simp [Act.eval, Act.put]) (by simp [Act.eval, Act.put]) kp2 ?_; rintro v3 w3 ⟨r1, r2, r3, r4, r5, r6, a3, n3, c3, rfl⟩; have hfin := fin _ w3 r1 r2 r3)
      | (go_simp; go_wp2_with (go_at_call 60; refine ks.mono ?_; rintro e w2 ⟨rfl, hb2⟩; have hb02 := hdr.trans hb2; obtain ⟨z2, z3⟩ := hS _ hb02; have kp2 := kp _ hb02; obtain ⟨z4, z5⟩ := hS _ (hb02.alloc hb02.size (.cells #[.int .u64 (idx : Int), .int .i64 ((E : Int) + (sz : Int))] 109)))))
  all_goals
    go_end0
    exact hfin.out
end Go.Proofs.YtgfoogeiancecaaGreatDoor

