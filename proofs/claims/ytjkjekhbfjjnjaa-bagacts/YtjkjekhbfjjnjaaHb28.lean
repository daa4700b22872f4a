import Derived.Test.YtjkjekhbfjjnjaaHb16
import Derived.Test.YtjkjekhbfjjnjaaHb18
import Derived.Laws.StructEq
/- The law's own model of a bag: how it lies in memory; who is parted. -/
namespace Go.Proofs.Ytjkjekhbfjjnjaa
open Go.RowKit Go.Maps
set_option maxRecDepth 100000
set_option linter.unusedSimpArgs false
set_option linter.unusedVariables false

theorem cellsArr : Try.prog.cellsOf 55 = 2 := by kernel_rfl
theorem arr_lits (d : Nat) {x y : Int} (hx : i64 x) (hy : i64 y) : Try.prog.keyLits (d + 2) 55 [.int .i64 x, .int .i64 y] = some [.int .i64 x, .int .i64 y] := by
  have wx := hx.wf
  have wy := hy.wf
  have hr : List.range 2 = [0, 1] := rfl
  simp [Program.keyLits, Try.underlying55, cellsArr, cellsInt, Try.underlying3, wx, wy, hr]
theorem eq_pair (w : World) {a b c d : Int} (ha : i64 a) (hb : i64 b) (hc : i64 c) (hd : i64 d) : (Op.equalIn 10000 55 (.agg #[.int .i64 a, .int .i64 b]) (.agg #[.int .i64 c, .int .i64 d])).run Try.prog w = .ok (a == c && b == d) w := by
  have hf : ∀ x y : Int, (Value.agg #[.int .i64 x, .int .i64 y]).formed Try.prog 55 = true := fun x y => by simp [Value.formed, Try.underlying55, cellsArr]
  obtain ⟨r, hr, hiff⟩ := run_equalIn_deep (P := Try.prog) 9990 10 55 (by kernel_rfl) w 2 2 (.agg #[.int .i64 a, .int .i64 b]) (.agg #[.int .i64 c, .int .i64 d]) _ _ (hf a b) (hf c d) (arr_lits 0 ha hb) (arr_lits 0 hc hd)
  rw [hr]
  congr 1
  rw [Bool.eq_iff_iff, hiff]
  simp
theorem eql_pair (w : World) {a b c d : Int} (ha : i64 a) (hb : i64 b) (hc : i64 c) (hd : i64 d) : (binOp .eql 55 (.agg #[.int .i64 a, .int .i64 b]) (.agg #[.int .i64 c, .int .i64 d])).run Try.prog w = .ok (.bool (a == c && b == d)) w := by
  rw [run_eql_struct, eq_pair w ha hb hc hd]
  rfl

/-- The model: its box, its messages' row, its pairs' row. -/
structure ModAt (w : World) (q : Nat) (lv pv : Value) (l : List Msg) (ps : List (Int × Int)) : Prop where
  box : w.heap[q]? = some (.cells #[lv, pv] 29 (0, 0))
  lrow : Rk msgE w 39 lv l
  prow : Rk pairE w 55 pv ps
  ok : ∀ c ∈ ps, i64 c.1 ∧ i64 c.2
def MineM (q : Nat) (lv pv : Value) (k : Nat) : Prop := k = q ∨ lv.ownBlock = some k ∨ pv.ownBlock = some k
theorem ModAt.lt {w : World} {q : Nat} {lv pv : Value} {l : List Msg} {ps : List (Int × Int)} (h : ModAt w q lv pv l ps) : ∀ k, MineM q lv pv k → k < w.heap.size := by
  rintro k (rfl | hk | hk)
  · exact (Array.getElem?_eq_some_iff.1 h.box).1
  · exact h.lrow.lt hk
  · exact h.prow.lt hk
theorem ModAt.same {w w' : World} {q : Nat} {lv pv : Value} {l : List Msg} {ps : List (Int × Int)} (h : ModAt w q lv pv l ps) (hs : ∀ k, MineM q lv pv k → w'.heap[k]? = w.heap[k]?) : ModAt w' q lv pv l ps :=
  ⟨(hs q (.inl rfl)).trans h.box, h.lrow.same fun k hk => hs k (.inr (.inl hk)), h.prow.same fun k hk => hs k (.inr (.inr hk)), h.ok⟩
theorem ModAt.below {w w' : World} {q : Nat} {lv pv : Value} {l : List Msg} {ps : List (Int × Int)} (h : ModAt w q lv pv l ps) (hb : Below w.heap.size w w') : ModAt w' q lv pv l ps := h.same fun k hk => hb.block k (h.lt k hk)
/-- What lies in one of the model's blocks. -/
theorem ModAt.typed {w : World} {q : Nat} {lv pv : Value} {l : List Msg} {ps : List (Int × Int)} (h : ModAt w q lv pv l ps) {k : Nat} (hk : MineM q lv pv k) : ∃ cs t, w.heap[k]? = some (.cells cs t (0, 0)) ∧ (t = 29 ∨ t = 39 ∨ t = 55) := by
  rcases hk with rfl | hk | hk
  · exact ⟨_, _, h.box, .inl rfl⟩
  · obtain ⟨cs, e⟩ := h.lrow.block hk
    exact ⟨cs, _, e, .inr (.inl rfl)⟩
  · obtain ⟨cs, e⟩ := h.prow.block hk
    exact ⟨cs, _, e, .inr (.inr rfl)⟩
/-- What lies in one of a bag's blocks. -/
theorem BagAt.typed {w : World} {p m : Nat} {fv : Value} {l : List Msg} {P : Int → Int → Bool} {N : Nat} (h : BagAt w p m fv l P N) {k : Nat} (hk : Mine p m fv k) : (∃ es cl, w.heap[k]? = some (.map es cl)) ∨ ∃ cs t, w.heap[k]? = some (.cells cs t (0, 0)) ∧ (t = 49 ∨ t = 62) := by
  rcases hk with rfl | rfl | hk
  · exact .inr ⟨_, _, h.box, .inl rfl⟩
  · obtain ⟨c, _, hM⟩ := h.map
    exact .inl hM.block
  · obtain ⟨cs, e⟩ := h.row.block hk
    exact .inr ⟨cs, _, e, .inr rfl⟩
/-- No block is both. -/
theorem apart {w : World} {p m q : Nat} {fv lv pv : Value} {l l' : List Msg} {P : Int → Int → Bool} {N : Nat} {ps : List (Int × Int)} (h : BagAt w p m fv l P N) (h' : ModAt w q lv pv l' ps) {k : Nat} (hk : Mine p m fv k) (hk' : MineM q lv pv k) : False := by
  obtain ⟨cs, t, e, ht⟩ := h'.typed hk'
  rcases h.typed hk with ⟨es, cl, e'⟩ | ⟨cs', t', e', ht'⟩
  · rw [e] at e'; cases e'
  · rw [e] at e'
    injection e' with e'
    injection e' with _ e'
    subst e'
    rcases ht with rfl | rfl | rfl <;> rcases ht' with h | h <;> cases h
theorem ModAt.ne {w : World} {q : Nat} {lv pv : Value} {l : List Msg} {ps : List (Int × Int)} (h : ModAt w q lv pv l ps) : lv.ownBlock ≠ some q ∧ pv.ownBlock ≠ some q ∧ ∀ k, lv.ownBlock = some k → pv.ownBlock ≠ some k := by
  refine ⟨fun e => ?_, fun e => ?_, fun k e e' => ?_⟩
  · obtain ⟨cs, hcs⟩ := h.lrow.block e
    rw [h.box] at hcs
    injection hcs with hcs
    injection hcs with _ hcs
    cases hcs
  · obtain ⟨cs, hcs⟩ := h.prow.block e
    rw [h.box] at hcs
    injection hcs with hcs
    injection hcs with _ hcs
    cases hcs
  · obtain ⟨cs, hcs⟩ := h.lrow.block e
    obtain ⟨cs', hcs'⟩ := h.prow.block e'
    rw [hcs] at hcs'
    injection hcs' with hcs'
    injection hcs' with _ hcs'
    cases hcs'
theorem ModAt.cells {w : World} {q : Nat} {lv pv : Value} {l : List Msg} {ps : List (Int × Int)} (h : ModAt w q lv pv l ps) : w.cell? ⟨q, 0, none⟩ = some lv ∧ w.cell? ⟨q, 1, none⟩ = some pv ∧ ∀ i, w.frozen? ⟨q, i, none⟩ = false :=
  ⟨by rw [cells_of_block h.box]; rfl, by rw [cells_of_block h.box]; rfl, fun i => frozen_of h.box i⟩

/-- Who is parted, by the model. -/
def mparted (ps : List (Int × Int)) (a b : Int) : Bool := match ps with
  | [] => false
  | c :: ps => if (c.1 == a && c.2 == b) || (c.1 == b && c.2 == a) then a != b else mparted ps a b

theorem pair_cells {w : World} {v : Value} {l : List (Int × Int)} (h : Rk pairE w 55 v l) {i : Nat} {x : Int × Int} (hx : l[i]? = some x) :
    ∃ g cap, v = .slice (some ⟨g, 0, none⟩) l.length cap ∧ w.cell? ⟨g, i * 2, none⟩ = some (.int .i64 x.1) ∧ w.cell? ⟨g, i * 2 + 1, none⟩ = some (.int .i64 x.2) := by
  have hi := (List.getElem?_eq_some_iff.1 hx).1
  obtain ⟨g, cap, cur, rfl, h1, h2, h3, h4, h5, h6, h7⟩ := h.cells (by omega)
  exact ⟨g, cap, rfl, h6 i x 0 hx (by decide), h6 i x 1 hx (by decide)⟩

set_option maxHeartbeats 2000000 in
theorem mparted_of {w : World} {q : Nat} {lv pv : Value} {l : List Msg} {ps : List (Int × Int)} (h : ModAt w q lv pv l ps) (a b : Int) (ha : i64 a) (hb : i64 b) (hlen : ps.length ≤ 1000000) :
    Calls Try.prog 12 #[.pointer (some ⟨q, 0, none⟩), .int .i64 a, .int .i64 b] w fun e w' => e = .returned (.bool (mparted ps a b)) ∧ w' = w := by
  obtain ⟨q0, q1, -⟩ := h.cells
  obtain ⟨ao, cap, hpv, -⟩ := h.prow.shape
  have hrow := h.prow
  have hok := h.ok
  rw [hpv] at q1 hrow
  clear h
  go_enter Try.func12, Try.ntmps12
  go_wp2
  go_loopg [7] ps.length (fun g s7 wr => ∃ i : Nat, i + g = ps.length ∧ s7 = .int .i64 (i : Int) ∧ wr = w ∧ Hid (mparted ps a b = mparted (ps.drop i) a b))
  case atStart => exact ⟨0, by simp, rfl, rfl, rfl⟩
  case round =>
    obtain ⟨i, hig, rfl, rfl, HM⟩ := hrel
    by_cases hlt : i < ps.length
    · have hlti : (i : Int) < (ps.length : Int) := by omega
      obtain ⟨c, hc⟩ : ∃ c, ps[i]? = some c := ⟨ps[i], List.getElem?_eq_getElem hlt⟩
      obtain ⟨hc1, hc2⟩ := hok c (List.mem_of_getElem? hc)
      obtain ⟨g, cap', e, x0, x1⟩ := pair_cells hrow hc
      cases e
      have hdr : ps.drop i = c :: ps.drop (i + 1) := by
        rw [List.drop_eq_getElem_cons hlt]
        congr 1
        have := List.getElem?_eq_getElem hlt
        rw [hc] at this
        exact (Option.some.inj this).symm
      have e1 := eq_pair wr hc1 hc2 ha hb
      have e2 := eq_pair wr hc1 hc2 hb ha
      have HM2 : Hid (mparted ps a b = if (c.1 == a && c.2 == b) || (c.1 == b && c.2 == a) then a != b else mparted (ps.drop (i + 1)) a b) := by
        have := HM.out
        rw [hdr, mparted] at this
        exact this
      clear HM hdr hrow hc1 hc2 hc
      generalize (c.1 == a && c.2 == b) = t1 at *
      generalize (c.1 == b && c.2 == a) = t2 at *
      cases t1
      · cases t2
        · have HM3 : Hid (mparted ps a b = mparted (ps.drop (i + 1)) a b) := HM2.out
          clear HM2
          go_wp2
          go_roundg (gk - 1)
          case measure => omega
          case rel => exact ⟨i + 1, by omega, by go_num, rfl, HM3⟩
        · have HM3 : Hid (mparted ps a b = (a != b)) := HM2.out
          clear HM2
          go_wp2
          go_ret
          exact ⟨by rw [HM3.out]; rfl, rfl⟩
      · have HM3 : Hid (mparted ps a b = (a != b)) := HM2.out
        clear HM2
        go_wp2
        go_ret
        exact ⟨by rw [HM3.out]; rfl, rfl⟩
    · have hlti : ¬ (i : Int) < (ps.length : Int) := by omega
      have HM3 : Hid (mparted ps a b = false) := by
        have := HM.out
        rw [List.drop_of_length_le (by omega)] at this
        exact this
      clear HM
      go_wp2
      go_ret
      exact ⟨by rw [HM3.out]; rfl, rfl⟩
end Go.Proofs.Ytjkjekhbfjjnjaa

