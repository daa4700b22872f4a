import Derived.Test.YtljfhafmedngnaaGreatDoorP52
import Derived.Test.YtljfhafmedngnaaGreatDoorP15
import Derived.Test.YtljfhafmedngnaaGreatDoorRows
import Derived.Test.YtljfhafmedngnaaGreatDoorCards
import Derived.Test.YtljfhafmedngnaaGreatDoorTie
import Derived.Deep.SlicePairs
import Derived.ProofKit
import Derived.Lib.SmallJoins
import Derived.OpenShut
import Derived.LaidLaws
import Derived.LaidSub
import Derived.LaidHandle
import Derived.MakeChecks
import Derived.Lay
import Derived.SevenTiedAt
import Derived.Stop.Joined
import Derived.Lib.LaidTab
import Derived.Carry
import Derived.SizedLaws
import Derived.JoinedCond
/- WalNobody: its law. -/
namespace Go.Proofs.YtljfhafmedngnaaGreatDoor
open Go.RowKit WalMath DiskMath
set_option maxRecDepth 100000
set_option linter.unusedSimpArgs false
set_option linter.unusedVariables false

set_option maxHeartbeats 1000000 in
theorem read_nil (w : World) (a : Option Addr) (c : Nat) : Calls Tryz.prog 68 #[.slice a 0 c] w fun e w' => e = .returned (.tuple #[.slice none 0 0, .slice none 0 0]) ∧ w' = w := by
  go_enter Tryz.func68, Tryz.ntmps68
  go_wp2
  go_loopg [2, 3, 4, 11] 0 (fun g s2 s3 s4 s11 wr => s2 = .slice none 0 0 ∧ s3 = .slice none 0 0 ∧ s4 = .int .u64 0 ∧ s11 = .int .i64 0 ∧ wr = w)
  case atStart => exact ⟨rfl, rfl, rfl, rfl, rfl⟩
  case round =>
    obtain ⟨rfl, rfl, rfl, rfl, hw⟩ := hrel
    rw [hw]
    clear hw
    go_wp2 <;> first | exact ⟨rfl, rfl⟩ | (go_ret2; exact ⟨rfl, rfl⟩)

theorem fw_nil (w : World) : Fw w.heap.size w (.slice none 0 0) [] := ⟨[], World.ownsRow_nil w _ _ 3, rfl, Nat.le_refl _, fun i sv f h => by simp at h⟩

theorem reads_nil (w : World) : Calls Tryz.prog 27 #[.slice none 0 0] w fun e w' => (∃ a c, e = .returned (.slice a 0 c)) ∧ Below w.heap.size w w' := by
  have kf := filesOf_of w.heap.size [] [] (.slice none 0 0) w (fw_nil w) ⟨rfl, fun i f x h => by simp at h⟩ (fun x hx => by cases hx) (fun i x y h => by simp at h) (by simp)
  go_enter Tryz.func27, Tryz.ntmps27
  go_wp2_with fail
  refine kf.mono ?_
  rintro e w1 ⟨v, rfl, ⟨ao, cap, hv, -⟩, -, hb⟩
  have hv' : v = .slice ao 0 cap := hv
  subst hv'
  have kr := read_nil w1 ao cap
  clear kf
  go_wp2_with fail
  refine kr.mono ?_
  rintro e w2 ⟨rfl, hw2⟩
  rw [hw2]
  clear kr hw2
  go_wp2
  go_ret
  exact ⟨⟨none, 0, rfl⟩, hb⟩

/-- The methods of a log that nobody opened, at any later world. -/
structure NoWals (w : World) (v : Value) (idx : Int) (a : Option Addr) (n c : Nat) : Prop where
  sync : ∀ W, Below w.heap.size w W → Calls Tryz.prog 11 #[v] W fun e w' => e = .returned (.tuple #[]) ∧ Below w.heap.size w w'
  get : ∀ W, Below w.heap.size w W → Calls Tryz.prog 24 #[v, .int .u64 idx] W fun e w' => e = .returned (.tuple #[.slice none 0 0, .bool false]) ∧ Below w.heap.size w w'
  append : ∀ W, Below w.heap.size w W → Calls Tryz.prog 20 #[v, .agg #[.int .u64 idx, .slice a n c]] W fun e w' => e = .returned (.int .i64 1) ∧ Below w.heap.size w w'
  cut : ∀ W, Below w.heap.size w W → Calls Tryz.prog 13 #[v, .int .u64 idx] W fun e w' => e = .returned (.int .i64 1) ∧ Below w.heap.size w w'
  compact : ∀ W, Below w.heap.size w W → Calls Tryz.prog 15 #[v, .int .u64 idx] W fun e w' => e = .returned (.int .i64 1) ∧ Below w.heap.size w w'
  first : ∀ W, Below w.heap.size w W → Calls Tryz.prog 30 #[v] W fun e w' => e = .returned (.int .u64 0) ∧ Below w.heap.size w w'
  last : ∀ W, Below w.heap.size w W → Calls Tryz.prog 10 #[v] W fun e w' => e = .returned (.int .u64 0) ∧ Below w.heap.size w w'
theorem noWals {w : World} {v : Value} (h : NoWal w v) (idx : Int) (a : Option Addr) (n c : Nat) : NoWals w v idx a n c :=
  ⟨fun W hb => (wsync_no (h.below hb)).mono fun e w' g => ⟨g.1, hb.trans (g.2.mono hb.size)⟩,
   fun W hb => (wget_no idx (h.below hb)).mono fun e w' g => ⟨g.1, hb.trans (g.2.mono hb.size)⟩,
   fun W hb => (wappend_no idx a n c (h.below hb)).mono fun e w' g => ⟨g.1, hb.trans (g.2.mono hb.size)⟩,
   fun W hb => (wcut_no idx (h.below hb)).mono fun e w' g => ⟨g.1, hb.trans (g.2.mono hb.size)⟩,
   fun W hb => (wcompact_no idx (h.below hb)).mono fun e w' g => ⟨g.1, hb.trans (g.2.mono hb.size)⟩,
   fun W hb => (wfirst_no (h.below hb)).mono fun e w' g => ⟨g.1, hb.trans (g.2.mono hb.size)⟩,
   fun W hb => (wlast_no (h.below hb)).mono fun e w' g => ⟨g.1, hb.trans (g.2.mono hb.size)⟩⟩

set_option maxHeartbeats 4000000 in
theorem wnobody_law (w : World) (hT : Tb w) (idx : Int) (a : Option Addr) (n c : Nat) :
    Calls Tryz.prog 6 #[.agg #[.int .u64 idx, .slice a n c]] w fun e w' => e = .returned (.bool true) ∧ Below w.heap.size w w' := by
  have hbox := (Below.refl w.heap.size w).alloc (Nat.le_refl _) (.cells #[.int .u64 idx, .slice a n c] 44)
  have hbx := heap_alloc_new w (.cells #[.int .u64 idx, .slice a n c] 44)
  have hszx : (w.alloc (.cells #[.int .u64 idx, .slice a n c] 44)).heap.size = w.heap.size + 1 := by simp
  have hcs : ∀ W, Below (w.heap.size + 1) (w.alloc (.cells #[.int .u64 idx, .slice a n c] 44)) W → W.cell? ⟨w.heap.size, 0, none⟩ = some (.int .u64 idx) ∧ W.cell? ⟨w.heap.size, 1, none⟩ = some (.slice a n c) := fun W hb => by
    have hbk' := (hb.block w.heap.size (Nat.lt_succ_self _)).trans hbx
    exact ⟨by rw [cells_of_block hbk']; rfl, by rw [cells_of_block hbk']; rfl⟩
  have k0 := open_no (w := w.alloc (.cells #[.int .u64 idx, .slice a n c] 44)) (d := .pointer none) (.inl rfl)
  have k1 : ∀ W : World, Calls Tryz.prog 8 #[.pointer (some ⟨W.heap.size, 0, none⟩)] (W.alloc (.cells #[.map none] 62)) fun e w' => e = .returned (.tuple #[.pointer none, .int .i64 1]) ∧ w' = W.alloc (.cells #[.map none] 62) := fun W => open_no (.inr ⟨_, rfl, by rw [cells_of_block (heap_alloc_new W _)]; rfl⟩)
  have k2 := reads_nil
  go_enter Tryz.func6, Tryz.ntmps6
  go_wp2_with fail
  refine k0.mono ?_
  rintro e w1 ⟨rfl, hw1⟩
  rw [hw1]
  clear hw1 w1 k0
  have k1' := k1 (w.alloc (.cells #[.int .u64 idx, .slice a n c] 44))
  rw [hszx] at k1'
  go_wp2_with fail
  refine k1'.mono ?_
  rintro e w1 ⟨rfl, hw1⟩
  have hb1 : Below (w.heap.size + 1) (w.alloc (.cells #[.int .u64 idx, .slice a n c] 44)) w1 := by
    rw [hw1]
    exact (Below.refl _ _).alloc (by rw [hszx]; exact Nat.le_refl _) _
  have k2' := k2 w1
  clear hw1 k1 k1' k2
  go_wp2_with fail
  refine k2'.mono ?_
  rintro e w2 ⟨⟨a2, c2, rfl⟩, hb2'⟩
  have hb2 := hb1.trans (hb2'.mono (by have := hb1.size; rw [hszx] at this; exact this))
  clear k2' hb1 hb2'
  go_wp2
  go_loopg [7] 2 (fun g s7 wr => ∃ i : Nat, i + g = 2 ∧ s7 = .int .i64 (i : Int) ∧ Below (w.heap.size + 1) (w.alloc (.cells #[.int .u64 idx, .slice a n c] 44)) wr)
  case atStart => exact ⟨0, by simp, rfl, hb2⟩
  case round =>
    obtain ⟨i, hi, rfl, hbr⟩ := hrel
    have hsr : w.heap.size + 1 ≤ wr.heap.size := by have := hbr.size; rw [hszx] at this; exact this
    by_cases hi0 : i = 0
    · subst hi0
      have hN := noWals (w := wr) (v := .pointer none) (.inl rfl) idx a n c
      have hx0 : Below wr.heap.size wr wr := Below.refl _ _
      have hC : ∀ W, Below wr.heap.size wr W → W.cell? ⟨w.heap.size, 0, none⟩ = some (.int .u64 idx) ∧ W.cell? ⟨w.heap.size, 1, none⟩ = some (.slice a n c) := fun W hb => hcs W (hbr.trans (hb.mono hsr))
      have q0 := hN.sync _ hx0
      obtain ⟨d0, e0⟩ := hC _ hx0
      go_wp2_with fail
      refine q0.mono ?_
      rintro e w10 ⟨rfl, b10⟩
      clear q0 d0 e0
      have q1 := hN.get _ b10
      obtain ⟨d1, e1⟩ := hC _ b10
      go_wp2_with fail
      refine q1.mono ?_
      rintro e w11 ⟨rfl, b11⟩
      clear q1 d1 e1
      have q2 := hN.append _ b11
      obtain ⟨d2, e2⟩ := hC _ b11
      go_wp2_with fail
      refine q2.mono ?_
      rintro e w12 ⟨rfl, b12⟩
      clear q2 d2 e2
      have q3 := hN.cut _ b12
      obtain ⟨d3, e3⟩ := hC _ b12
      go_wp2_with fail
      refine q3.mono ?_
      rintro e w13 ⟨rfl, b13⟩
      clear q3 d3 e3
      have q4 := hN.compact _ b13
      obtain ⟨d4, e4⟩ := hC _ b13
      go_wp2_with fail
      refine q4.mono ?_
      rintro e w14 ⟨rfl, b14⟩
      clear q4 d4 e4
      have q5 := hN.first _ b14
      obtain ⟨d5, e5⟩ := hC _ b14
      go_wp2_with fail
      refine q5.mono ?_
      rintro e w15 ⟨rfl, b15⟩
      clear q5 d5 e5
      have q6 := hN.last _ b15
      obtain ⟨d6, e6⟩ := hC _ b15
      go_wp2_with fail
      refine q6.mono ?_
      rintro e w16 ⟨rfl, b16⟩
      clear q6 d6 e6
      clear hN hC
      go_wp2
      go_roundg (gk - 1)
      case measure => omega
      case rel => exact ⟨1, by omega, rfl, hbr.trans (b16.mono hsr)⟩
    · by_cases hi1 : i = 1
      · subst hi1
        have hbz := (Below.refl wr.heap.size wr).alloc (Nat.le_refl _) (.cells #[.pointer none, .slice none 0 0] 65)
        have hszz : (wr.alloc (.cells #[.pointer none, .slice none 0 0] 65)).heap.size = wr.heap.size + 1 := by simp
        have hN := noWals (w := wr.alloc (.cells #[.pointer none, .slice none 0 0] 65)) (v := .pointer (some ⟨wr.heap.size, 0, none⟩)) (.inr ⟨_, rfl, by rw [cells_of_block (heap_alloc_new wr _)]; rfl⟩) idx a n c
        have hx1 : Below (wr.alloc (.cells #[.pointer none, .slice none 0 0] 65)).heap.size (wr.alloc (.cells #[.pointer none, .slice none 0 0] 65)) (wr.alloc (.cells #[.pointer none, .slice none 0 0] 65)) := Below.refl _ _
        have hC : ∀ W, Below (wr.alloc (.cells #[.pointer none, .slice none 0 0] 65)).heap.size (wr.alloc (.cells #[.pointer none, .slice none 0 0] 65)) W → W.cell? ⟨w.heap.size, 0, none⟩ = some (.int .u64 idx) ∧ W.cell? ⟨w.heap.size, 1, none⟩ = some (.slice a n c) := fun W hb => hcs W ((hbr.trans (hbz.mono hsr)).trans (hb.mono (by rw [hszz]; omega)))
        have q0 := hN.sync _ hx1
        obtain ⟨d0, e0⟩ := hC _ hx1
        go_wp2_with fail
        refine q0.mono ?_
        rintro e w10 ⟨rfl, b10⟩
        clear q0 d0 e0
        have q1 := hN.get _ b10
        obtain ⟨d1, e1⟩ := hC _ b10
        go_wp2_with fail
        refine q1.mono ?_
        rintro e w11 ⟨rfl, b11⟩
        clear q1 d1 e1
        have q2 := hN.append _ b11
        obtain ⟨d2, e2⟩ := hC _ b11
        go_wp2_with fail
        refine q2.mono ?_
        rintro e w12 ⟨rfl, b12⟩
        clear q2 d2 e2
        have q3 := hN.cut _ b12
        obtain ⟨d3, e3⟩ := hC _ b12
        go_wp2_with fail
        refine q3.mono ?_
        rintro e w13 ⟨rfl, b13⟩
        clear q3 d3 e3
        have q4 := hN.compact _ b13
        obtain ⟨d4, e4⟩ := hC _ b13
        go_wp2_with fail
        refine q4.mono ?_
        rintro e w14 ⟨rfl, b14⟩
        clear q4 d4 e4
        have q5 := hN.first _ b14
        obtain ⟨d5, e5⟩ := hC _ b14
        go_wp2_with fail
        refine q5.mono ?_
        rintro e w15 ⟨rfl, b15⟩
        clear q5 d5 e5
        have q6 := hN.last _ b15
        obtain ⟨d6, e6⟩ := hC _ b15
        go_wp2_with fail
        refine q6.mono ?_
        rintro e w16 ⟨rfl, b16⟩
        clear q6 d6 e6
        clear hN hC
        go_wp2
        go_roundg (gk - 1)
        case measure => omega
        case rel => exact ⟨2, by omega, rfl, (hbr.trans (hbz.mono hsr)).trans (b16.mono (by rw [hszz]; omega))⟩
      · obtain rfl : i = 2 := by omega
        have hbw := hbox.trans (hbr.mono (Nat.le_succ _))
        have ha := once_of wr (hT.new hbw)
        clear hcs
        go_wp2_with fail
        refine ha.mono ?_
        rintro e w' ⟨rfl, hb⟩
        go_wp2
        go_ret
        exact ⟨rfl, hbw.trans (hb.mono hbw.size)⟩
end Go.Proofs.YtljfhafmedngnaaGreatDoor

/- From the row's condition on its six variables to the two tables that are read; how a record that came in is read. -/
namespace Go.Proofs.YtljfhafmedngnaaGreatDoor
open Go.ChangeShapes Go.WideShapes Go.ChangeAt Go.RowKit
set_option maxRecDepth 100000
set_option linter.unusedSimpArgs false

theorem own : ownKnob Tryz.prog.godebug = none := by kernel_rfl
theorem laidOut : laidOutB Tryz.prog = true := by kernel_rfl

/-- The table's words. -/
def words : List Int := [0, 498536548, 997073096, 651767980, 1994146192, 1802195444, 1303535960, 1342533948, 3988292384, 4027552580, 3604390888, 3412177804, 2607071920, 2262029012, 2685067896, 3183342108]
theorem words_are : ((List.range 16).all fun r => words.getD r 0 == (CrcMath.Tn 4 r : Int)) = true := by kernel_rfl
/-- What the row lists. -/
def laid : List (String × DataW Unit) := Rows.walNobodyRow.laid

theorem tb_of_laid {W : World} (h : laidMetH Tryz.prog laid W) : Tb W := by
  have h1 := h.filter fun x => x.1 == "gudgeon/crc.halves"
  have h2 := h.filter fun x => x.1 == "internal/strconv.uint64pow10"
  have e1 : (laid.filter fun x => x.1 == "gudgeon/crc.halves") = [("gudgeon/crc.halves", Lib.tabData .u32 words)] := by kernel_rfl
  have e2 : (laid.filter fun x => x.1 == "internal/strconv.uint64pow10") = [("internal/strconv.uint64pow10", Lib.tabData .u64 Lib.pow10Tab)] := by kernel_rfl
  rw [e1, MakeChecks.laidMetH_plain _ _ _ (by kernel_rfl)] at h1
  rw [e2, MakeChecks.laidMetH_plain _ _ _ (by kernel_rfl)] at h2
  have hg : Tryz.prog.globalNamed "gudgeon/crc.halves" = some 0 := by kernel_rfl
  have t1 := Lib.tabIs_of_head hg (t := 228) (by kernel_rfl) Tryz.underlying228 Tryz.underlying166 (by kernel_rfl) (by kernel_rfl) h1
  refine ⟨fun r hr => ?_, Lib.tabIs_of_head pow_at (t := 230) (by kernel_rfl) Tryz.underlying230 Tryz.underlying31 (by kernel_rfl) (by kernel_rfl) h2⟩
  rw [t1.cell hg r hr]
  have hw : words.getD r 0 = (CrcMath.Tn 4 r : Int) := by simpa using List.all_eq_true.1 words_are r (List.mem_range.2 hr)
  rw [hw]

theorem met (os : Os) (args : Array Value) : laidMetH Tryz.prog laid ((World.laidAll Tryz.prog os laid).forCall (fun _ _ => 0) ⟨#[], args, []⟩).memory := by
  rw [MakeChecks.laidMetH_plain _ _ _ (by kernel_rfl)]
  exact laidMet_laidAll _ (by kernel_rfl) (by kernel_rfl)

theorem cells_rec : Tryz.prog.cellsOf 44 = 2 := by kernel_rfl
theorem cells_byte : Tryz.prog.cellsOf 5 = 1 := by kernel_rfl

/-- A record, opened: its index, and that its bytes are a slice. -/
theorem rec_opened {H : Type} {enc : TypeId × Value → H} {W : World} {fuel : Nat} {cs : List Value} {y : DataW H × List MemPlace} (hlen : cs.length = 2)
    (h : DataW.trod enc Tryz.prog W 0 (fun _ => true) true fuel 44 cs = some y) : ∃ z a n c, cs = [.int .u64 z, .slice a n c] := by
  obtain ⟨y0, y1, k, -, -, g0, g1⟩ := trod_struct2 Tryz.underlying44 h
  match cs, hlen with
  | [v0, v1], _ =>
    have g0' : DataW.trod enc Tryz.prog W 0 (fun _ => true) true k 31 [v0] = some y0 := g0
    have g1' : DataW.trod enc Tryz.prog W 0 (fun _ => true) true k 32 [v1] = some y1 := g1
    obtain ⟨z0, i0, _, _⟩ := DataW.trod_int Tryz.underlying31 g0'
    simp only [List.cons.injEq, and_true] at i0
    subst i0
    rcases Deep.open_slice1 Tryz.underlying32 cells_byte g1' with ⟨hcs, hx⟩ | ⟨a, len, cap, m, n, V, D, Pl, hcs, _, hl, hm, hmm, hx, hc⟩
    · obtain rfl : v1 = .slice none 0 0 := by simpa using hcs
      exact ⟨_, _, _, _, rfl⟩
    · obtain rfl : v1 = .slice (some a) len cap := by simpa using hcs
      exact ⟨_, _, _, _, rfl⟩
end Go.Proofs.YtljfhafmedngnaaGreatDoor

/- The law WalNobody answers true at every record and leaves its argument and all memory as they were: the row and its tied card. -/
namespace Go.Proofs.YtljfhafmedngnaaGreatDoor
open Go.ChangeShapes Go.WideShapes Go.ChangeAt Go.RowKit
set_option maxRecDepth 100000

theorem wnobody_lifted (os : Os) (started : os.Started) (H : Type) (enc : TypeId × Value → H) :
    ReturnsInHanded {} Tryz.checked os 6 .any (fun w args => (Rows.walNobodySpec.pre enc Tryz.prog Tryz.f6 [] false w args ∧ laidMetH Tryz.prog laid w) ∧ sizedMet enc Tryz.prog Tryz.f6 (OpenSpec.ofChange Rows.walNobodySpec) false w args)
      (Rows.walNobodySpec.post enc Tryz.prog Tryz.f6 false true false false) := by
  refine returnsInHanded_of_change_and (C := Tryz.checked) (X := fun w _ => laidMetH Tryz.prog laid w) (fun _ _ _ hh h => h.of_heap hh) own started (by kernel_rfl) Tryz.func6
    (ChangeSpec.witness_shaped (enc := enc) (C := Tryz.checked) (os := os) (X := fun w _ => laidMetH Tryz.prog laid w) false (World.laidAll Tryz.prog os laid) #[.agg #[.int .u64 0, .slice none 0 0]] 8 (World.laidAll_os _ _ _)
      (World.shaped_of_ZipB (by kernel_rfl) (by kernel_rfl)) (by kernel_rfl) (by kernel_rfl) (by kernel_rfl) (met os _)) ?_
  intro W base args ds gs before hval0 hW _ hsz hL _
  have hval : ∀ (j : Nat) t v, Tryz.f6.params[j]? = some t → args[j]? = some v → Value.okWide Tryz.prog W .any base t v := hval0
  have hW' := hW
  obtain ⟨p, q, hA0, hV, rfl, hfz, hnd⟩ := hW
  have hA : DataW.TrodAll enc Tryz.prog W 0 (fun _ => true) true Tryz.f6.params.toList args.toList ds p := hA0
  rw [Tryz.params6] at hA hval hsz
  obtain ⟨v0, d0, rfl, rfl, h0⟩ := trodAll_one hA
  obtain ⟨rfl, rfl⟩ := trodVars_none hV
  obtain ⟨cs, rfl, hsz2⟩ := okWide_struct Tryz.underlying44 (hval 0 44 v0 rfl rfl)
  have hsz3 : cs.size = 2 := hsz2.trans cells_rec
  obtain ⟨fuel, hf⟩ := id h0
  have hcl : (Value.agg cs).cells.toList = cs.toList := rfl
  rw [hcl] at hf
  obtain ⟨z, a, n, c, hcs⟩ := rec_opened (by rw [Array.length_toList]; exact hsz3) hf
  obtain rfl : cs = #[.int .u64 z, .slice a n c] := Array.toList_inj.1 hcs
  have hlt : ∀ y ∈ p, y.block < W.heap.size := fun y hy => by simpa using hW'.lt y (by simpa using hy)
  have es : Rows.walNobodySpec.fn H ([d0] ++ []) = { results := [.lit (.bool true)], args := [d0] } := by simp [Rows.walNobodySpec]
  refine (wnobody_law W (tb_of_laid hL) z a n c).mono fun e W' ⟨he, hb⟩ => ?_
  subst he
  refine ⟨_, rfl, _, _, _, [], p, [], hW', ?_, ?_, ?_, hb.frame _, fun h => by cases h⟩
  · rw [es]; exact trodAll_mk1 (shut_bool Tryz.underlying4 true)
  · rw [es]; exact trodAll_mk1 (Below.trod laidOut (by kernel_rfl) (of_decide_eq_true (by kernel_rfl)) h0 hb hlt)
  · rw [es]; rfl

theorem wnobody_row : Rows.WalNobodySaid :=
  OpenClaim.holds_of_wide 6 Tryz.f6 rfl rfl rfl rfl rfl rfl rfl ⟨rfl, rfl, rfl, rfl, rfl⟩ rfl rfl rfl rfl rfl (by kernel_rfl) Tryz.func6 (by kernel_rfl)
    (of_decide_eq_true (by kernel_rfl)) (by unfold Func.isWrapper; rw [if_neg (of_decide_eq_false (by kernel_rfl))]; exact ⟨rfl, rfl⟩)
    (fun os started H enc _ => wnobody_lifted os started H enc)

theorem wnobody_card : Rows.WalNobodyCardSaid :=
  Claim7.holds_tied_plain_at .later [] [.data, .data, .data, .sentinel, .sentinel, .data] true (true, "ba9f09411c2431f82ce777c83c9adfcc524ecf6f69d42308daad3a5026900f44") true
    wnobody_row (fun _ h => by cases h) (by kernel_rfl) (fun _ h => by cases h) walNobody_row_tie rfl ⟨rfl, rfl⟩ (by kernel_rfl) rfl
    (fun f fn hf hfn => by
      obtain rfl : f = 6 := Option.some.inj ((show Tryz.prog.funcNamed "gudgeon/gudgeonlaw06.WalNobody" = some 6 by kernel_rfl).symm.trans hf) |>.symm
      obtain rfl : fn = Tryz.f6 := (Option.some.inj (Tryz.func6.symm.trans hfn)).symm
      exact ⟨by kernel_rfl, fun j t ht => by
        rw [Tryz.params6] at ht
        have hm : t ∈ [44] := by simpa using Array.mem_of_getElem? ht
        have hall : ([44].all fun u => !Tryz.prog.wantsStandIn u) = true := by kernel_rfl
        exact (show Tryz.prog.wantsStandIn t = false by simpa using List.all_eq_true.1 hall t hm)⟩)
    (by kernel_rfl)
#print axioms wnobody_card
end Go.Proofs.YtljfhafmedngnaaGreatDoor

