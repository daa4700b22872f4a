/- The contracts of Depth and Ops over any chain of faults and of Text of no error: the result, and that what lay in memory before stays as it was. -/
import Derived.Test.YtgffbicdfclcmaaDoorText
import Derived.RangeFuncBox
namespace Go.Proofs.YtgffbicdfclcmaaDoor
open Go.RowKit
set_option maxRecDepth 100000
set_option linter.unusedSimpArgs false

set_option maxHeartbeats 1000000 in
theorem depth_of (l : List (ByteArray × Int)) (t : Option Int) (v : Value) (w : World) (hg : Door w) (h : IsErr w v l t) (hl : l.length ≤ 1000000) :
    Calls Tryd.prog 11 #[v] w fun e w' => e = .returned (.int .i64 l.length) ∧ Below w.heap.size w w' := by
  have h1 := trim_of w h
  have h2 := outermost_base w w hg h (Below.refl _ _)
  go_enter Tryd.func11, Tryd.ntmps11
  go_wp2_with (first | (go_at_call 27; refine h1.mono ?_; rintro e wq ⟨rfl, hwq⟩; subst hwq) | (go_at_call 26; refine h2.mono ?_; rintro e w' ⟨pv, rfl, hF, hb⟩))
  clear h1 h2 h
  go_loopg [3, 4] l.length (fun k s3 s4 wr => ∃ (l' : List (ByteArray × Int)) (i : Nat), k = l'.length ∧ i + l'.length = l.length ∧ s3 = .int .i64 (i : Int) ∧ FAt wq s4 l' t ∧ Below wq.heap.size wq wr)
  case atStart => exact ⟨l, 0, rfl, by simp, rfl, hF, hb⟩
  case round =>
    clear hF hb
    obtain ⟨l', i, rfl, hi, rfl, hF, hb⟩ := hrel
    cases l' with
    | nil =>
      obtain rfl := hF
      have hi' : i = l.length := by simpa using hi
      have HI : Hid (i = l.length) := hi'
      clear hi hi'
      go_wp2
      go_ret
      exact ⟨ret_i64 (by rw [HI.out]), hb⟩
    | cons c r =>
      obtain ⟨b, inner, rfl, hbl, h3⟩ := hF
      have c2 : wr.cell? ⟨b, 2, none⟩ = some inner := by rw [cells_of_block ((hb.block b (Array.getElem?_eq_some_iff.1 hbl).1).trans hbl)]; rfl
      have ho := outermost_base wq wr hg h3 hb
      have hil : i + 1 ≤ 1000000 := by simp at hi; omega
      have HI : Hid (i + (c :: r).length = l.length) := hi
      clear hbl hi h3
      go_wp2_with (go_at_call 26; refine ho.mono ?_; rintro e w' ⟨pv', rfl, hF', hb'⟩)
      go_roundg r.length
      case measure => simp
      case rel => exact ⟨r, i + 1, rfl, by have := HI.out; simp at this; omega, by go_num, hF', hb.trans (hb'.mono hb.size)⟩

theorem infoStr : (Tryd.prog.info? 9).map (fun i => (i.zero, i.size, i.bytes)) = some (some (.string ⟨#[]⟩), 1, 16) := by kernel_rfl

/-- The texts of a chain's causes, as cells. -/
def opCells (l : List (ByteArray × Int)) : List Value := l.map fun c => .string c.1

set_option maxHeartbeats 2000000 in
theorem ops_of (l : List (ByteArray × Int)) (t : Option Int) (v : Value) (w : World) (hg : Door w) (h : IsErr w v l t) (hl : l.length ≤ 1000000) :
    Calls Tryd.prog 10 #[v] w fun e w' => ∃ sv, e = .returned sv ∧ w'.ownsRow w.heap.size 9 1 sv l.length (opCells l) ∧ Below w.heap.size w w' := by
  obtain ⟨i0, hi0, hz0, hz1, hz2⟩ := info_parts infoStr
  have h1 := trim_of w h
  have h2 := outermost_base w w hg h (Below.refl _ _)
  go_enter Tryd.func10, Tryd.ntmps10
  go_wp2_with (first | (go_at_call 27; refine h1.mono ?_; rintro e wq ⟨rfl, hwq⟩; subst hwq) | (go_at_call 26; refine h2.mono ?_; rintro e w' ⟨pv, rfl, hF, hb⟩))
  clear h1 h2 h
  go_loopg [3, 4] l.length (fun k s3 s4 wr => ∃ l' d : List (ByteArray × Int), k = l'.length ∧ Hid (d ++ l' = l) ∧ d.length ≤ 1000000 ∧ wr.ownsRow wq.heap.size 9 1 s3 d.length (opCells d) ∧ FAt wq s4 l' t ∧ Below wq.heap.size wq wr)
  case atStart => exact ⟨l, [], rfl, rfl, by simp, World.ownsRow_nil _ _ _ _, hF, hb⟩
  case round =>
    clear hF hb
    obtain ⟨l', d, rfl, hd, hdl, hown, hF, hb⟩ := hrel
    cases l' with
    | nil =>
      obtain rfl := hF
      obtain ⟨ao, n', cap, rfl⟩ : ∃ ao n' cap, u3 = .slice ao n' cap := by
        rcases hown.2 with ⟨hv, _⟩ | ⟨g, cap, cur, hv, _⟩
        · exact ⟨_, _, _, hv⟩
        · exact ⟨_, _, _, hv⟩
      go_wp2
      go_ret
      refine ⟨_, rfl, ?_, hb⟩
      have e : d = l := by simpa using hd.out
      rw [← e]; exact hown
    | cons c r =>
      obtain ⟨b, inner, rfl, hbl, h3⟩ := hF
      have hlt : b < wq.heap.size := (Array.getElem?_eq_some_iff.1 hbl).1
      have c0 : wr.cell? ⟨b, 0, none⟩ = some (.string c.1) := by rw [cells_of_block ((hb.block b hlt).trans hbl)]; rfl
      have hdl' : d.length + 1 ≤ 1000000 := by have := congrArg List.length hd.out; simp at this; omega
      go_wp2_with (at_builtin; refine wpList_append_own _ rfl _ _ 27 rfl wq.heap.size 9 i0 (.string ⟨#[]⟩) 1 16 Tryd.underlying27 hi0 hz0 hz1 hz2 rfl (by decide) _ _ _ rfl (hown.alloc _) ⟨wr.heap.size, 0, none⟩ 1 1 [.string c.1] rfl rfl ?c1 ?c2 ?c3 ?c4 ?c5 ?_)
      case c1 =>
        intro j u hj
        match j, hj with
        | 0, hj => simp at hj; subst hj; simp [Addr.add]
      case c2 => intro u hu; simp at hu; subst hu; rfl
      case c3 => unfold maxLen; omega
      case c4 => omega
      case c5 => have := hb.size; simp; omega
      intro v' w2 hown' hgrow _
      have hb2 : Below wq.heap.size wq w2 := (hb.alloc hb.size _).grown hgrow (by have := hb.size; simp; omega) (fun k hk => (hown.lt k hk).1)
      have c2 : w2.cell? ⟨b, 2, none⟩ = some inner := by rw [cells_of_block ((hb2.block b hlt).trans hbl)]; rfl
      have ho := outermost_base wq w2 hg h3 hb2
      go_wp2_with (go_at_call 26; refine ho.mono ?_; rintro e w3 ⟨pv', rfl, hF', hb'⟩)
      go_roundg r.length
      case measure => simp
      case rel =>
        refine ⟨r, d ++ [c], rfl, ?_, by simpa using hdl', ?_, hF', hb2.trans (hb'.mono hb2.size)⟩
        · show d ++ [c] ++ r = l
          rw [← hd.out]; simp
        · have hg3 : w2.grownBy w3 none := ⟨hb'.os, hb'.tape, hb'.output, hb'.size, fun k hk _ => hb'.block k hk⟩
          have := hown'.kept hg3 (by simp; exact Classical.em _)
          simpa [opCells] using this

set_option maxHeartbeats 2000000 in
theorem string_nil (B b : Nat) (p : Value) (w : World) (hbk : w.heap[b]? = some (.cells #[p, .slice none 0 0] 60 (0, 0))) :
    Calls Tryd.prog 32 #[.pointer (some ⟨b, 0, none⟩)] w fun e w' => e = .returned (.string ⟨#[]⟩) ∧ Below B w w' := by
  have hUS : ∀ (W : World) (q : Option Addr), (Builtin.unsafeString_ #[80, 3] 9 #[.pointer q, .int .i64 0]).run Tryd.prog W = .ok (.string .empty) W := fun W q => Lib.run_unsafeString_none W _ _ _ q
  have c1 : w.drew.cell? ⟨b, 1, none⟩ = some (.slice none 0 0) := by
    have : w.drew.heap[b]? = some (.cells #[p, .slice none 0 0] 60 (0, 0)) := hbk
    rw [Lib.cell_of_heap this]; rfl
  have hSD : (Builtin.unsafeSliceData_ #[58] 80 #[.slice none 0 0]).run Tryd.prog w.drew = .ok (.pointer none) w.drew := rfl
  clear hbk
  go_enter Tryd.func32, Tryd.ntmps32
  go_wp2
  go_region
  all_goals (go_wp2; go_ret; exact ⟨rfl, Below.drew (Below.refl B w)⟩)

set_option maxHeartbeats 1000000 in
theorem text_nil (w : World) (hg : Door w) : Calls Tryd.prog 12 #[.nilIface] w fun e w' => e = .returned (.string ⟨#[]⟩) ∧ Below w.heap.size w w' := by
  have hS0 := St.new w
  have h1 := trim_of (v := .nilIface) (l := []) (t := none) (w.alloc (.cells #[.pointer none, .slice none 0 0] 60)) rfl
  have h2 := outermost_nil (w.alloc (.cells #[.pointer none, .slice none 0 0] 60))
  have hbl : (w.alloc (.cells #[.pointer none, .slice none 0 0] 60)).heap[w.heap.size]? = some (.cells #[.pointer none, .slice none 0 0] 60 (0, 0)) := World.alloc_heap_new w _
  go_enter Tryd.func12, Tryd.ntmps12
  go_wp2_with (first | (go_at_call 27; refine h1.mono ?_; rintro e wq ⟨rfl, hwq⟩; subst hwq) | (go_at_call 26; refine h2.mono ?_; rintro e w1 ⟨rfl, hb1⟩))
  have hB1 : Below w.heap.size w w1 := hS0.2.trans (hb1.mono (by simp))
  have hi := innermost_of [] none .nilIface w1 (hg.below hB1) rfl
  have hbl1 : w1.heap[w.heap.size]? = some (.cells #[.pointer none, .slice none 0 0] 60 (0, 0)) := (hb1.block _ (by simp)).trans hbl
  dsimp only [Option.getD, Option.isSome] at hi
  clear h1 h2 hbl hS0
  refine wp_loop_rounds 1 ?_
  rw [rounds_succ]
  go_wp2_with (go_at_call 31; refine hi.mono ?_; rintro e w2 ⟨rfl, hb2⟩)
  refine (string_nil w.heap.size w.heap.size (.pointer none) w2 ((hb2.block _ (Array.getElem?_eq_some_iff.1 hbl1).1).trans hbl1)).mono ?_
  rintro e w3 ⟨rfl, hb3⟩
  clear hi hbl1
  go_wp2
  go_ret
  exact ⟨rfl, (hB1.trans (hb2.mono hB1.size)).trans hb3⟩
end Go.Proofs.YtgffbicdfclcmaaDoor
