/- The contract of Chain over any slice of causes: the chain's error, laid in new blocks; what lay in memory before stays as it was. -/
import Derived.Test.YtgffbicdfclcmaaDoorBack
import Derived.Test.YtgffbicdfclcmaaDoorIs
namespace Go.Proofs.YtgffbicdfclcmaaDoor
open Go.RowKit Go.Shelf
attribute [local go_sem] Oper.semAt_some
set_option maxRecDepth 100000

theorem IsErr.kept {X Y : World} {row : Option Nat} (hg : X.grownBy Y row) (hr : ∀ r, row = some r → ∃ o, X.heap[r]? = some o ∧ o.isCells = false) :
    ∀ {l : List (ByteArray × Int)} {v : Value} {t : Option Int}, IsErr X v l t → IsErr Y v l t
  | [], _, none, h => h
  | [], _, some _, h => h
  | _ :: _, _, _, ⟨b, inner, h1, h2, h3⟩ => ⟨b, inner, h1, (hg.block b (Array.getElem?_eq_some_iff.1 h2).1 (fun e => by
      obtain ⟨o, ho, hc⟩ := hr b e.symm
      rw [h2] at ho; cases ho; cases hc)).trans h2, IsErr.kept hg hr h3⟩

theorem IsErr.setBox {W : World} {B : Nat} {u : Value} (hB : Boxed W B 25 u) (u' : Value) :
    ∀ {l : List (ByteArray × Int)} {v : Value} {t : Option Int}, IsErr W v l t → IsErr (W.setCell ⟨B, 0, none⟩ u') v l t
  | [], _, none, h => h
  | [], _, some _, h => h
  | _ :: _, _, _, ⟨b, inner, h1, h2, h3⟩ => ⟨b, inner, h1, by
      rw [Below.heap_setCell _ _ _ _ (fun e => by
        have hB' : W.heap[B]? = some (.cells #[u] 25 (0, 0)) := hB
        have e' : b = B := e
        rw [e', hB'] at h2
        simp at h2)]
      exact h2, IsErr.setBox hB u' h3⟩

/-- The variable e's box holds the chain of what has come. -/
def Inv (B : Nat) (pre : List (Int × ByteArray × Int)) (W : World) : Prop := ∃ v, Boxed W B 25 v ∧ IsErr W v (pre.map (·.2)).reverse none

theorem inv_own (B : Nat) : Own (Inv B) := by
  rintro s X Y row ⟨v, hv, he⟩ hg hr
  exact ⟨v, boxed_own B 25 (fun (_ : Unit) => v) () X Y row hv hg hr, he.kept hg hr⟩

set_option maxHeartbeats 4000000 in
theorem chain_of (zs : List (ByteArray × Int)) (a : Option Addr) (len cap : Nat) (w : World) (hlen : zs.length ≤ 1000000) (hC : Causes w.heap.size w (.slice a len cap) zs) :
    Calls Tryd.prog 9 #[.slice a len cap] w fun e w' => ∃ v, e = .returned v ∧ IsErr w' v zs none ∧ Below w.heap.size w w' := by
  refine (callsIn_wide (n := 6)).1 ?_
  refine callsIn_of_wp_marks Tryd.func9 rfl trivial ?_ rfl
  simp only [Tryd.ntmps9, List.size_toArray, List.length_cons, List.length_nil, Nat.reduceAdd, Nat.reduceSub, Array.replicate_succ, Array.replicate_zero, List.push_toArray, List.append_toArray, List.nil_append, List.cons_append]
  gi_wp2_with (refine ⟨trivial, ?_⟩; gi_at_call 25; refine (back_in Fence.wide _ trivial rfl _ _ _ _).mono ?_; rintro e w' ⟨rfl, rfl⟩)
  have bE := (Boxed.new w 25 .nilIface).alloc (.cells #[.slice a len cap] 22)
  have bS := Boxed.new (w.alloc (.cells #[.nilIface] 25)) 22 (.slice a len cap)
  simp only [World.size_alloc] at bS
  have hB0 : Below w.heap.size w ((w.alloc (.cells #[.nilIface] 25)).alloc (.cells #[.slice a len cap] 22)) := ((Below.refl _ w).alloc (Nat.le_refl _) _).alloc (by simp) _
  have hsz : ((w.alloc (.cells #[.nilIface] 25)).alloc (.cells #[.slice a len cap] 22)).heap.size = w.heap.size + 2 := by simp
  obtain ⟨W0, hW0⟩ : ∃ W0, (w.alloc (.cells #[.nilIface] 25)).alloc (.cells #[.slice a len cap] 22) = W0 := ⟨_, rfl⟩
  rw [hW0] at bE bS hB0 hsz ⊢
  clear hW0
  refine wpIn_rangeFunc_ownH (α := Int × ByteArray × Int) rfl (by omega) (gf := 37) (lb := #[.pointer (some ⟨w.heap.size + 1, 0, none⟩)]) rfl trivial (enters_of Tryd.func37 (by kernel_rfl) rfl)
    (back_stops Fence.wide _ trivial rfl (by omega) (w.heap.size + 1) w.heap.size (.slice a len cap) zs hlen W0 (by omega) (by omega) bS.cell (hC.below hB0)) KeepB.trans (KeepB.put (by omega) (by omega)) (Below.refl _ _) (fun _ => rfl)
    (fun pre W => (Inv w.heap.size pre W ∧ Boxed W (w.heap.size + 1) 22 (.slice a len cap)) ∧ Below w.heap.size w W)
    (fun _ _ _ => False)
    (OwnFrom.and (OwnFrom.and (Own.from (inv_own _) _) (Own.from (boxed_own (w.heap.size + 1) 22 (fun _ => .slice a len cap)) _)) (ownFrom_below (Nat.le_refl _) (by omega)))
    (fun _ _ _ _ _ hs _ _ => hs)
    ⟨⟨⟨.nilIface, bE, rfl⟩, bS⟩, hB0⟩
    (fun x a' W => ∃ Bx, w.heap.size + 1 < Bx ∧ W.heap[Bx]? = some (.cells #[.string x.2.1, .int .i64 x.2.2] 32 (0, 0)) ∧ a' = { tmps := #[.slice a len cap, undef, .nilIface, .pointer (some ⟨w.heap.size, 0, none⟩), undef, .pointer (some ⟨Bx, 0, none⟩), .slice a len cap, .func (.func 37) #[] #[.pointer (some ⟨w.heap.size + 1, 0, none⟩)], .int .i64 x.1, .agg #[.string x.2.1, .int .i64 x.2.2], undef, undef, undef, undef, undef, undef, undef], defers := [] })
    (fun x a' _ X Y row hs hg hr => by
      obtain ⟨Bx, h1, h2, h3⟩ := hs
      exact ⟨Bx, h1, (hg.block Bx (Array.getElem?_eq_some_iff.1 h2).1 (fun e => by
        obtain ⟨o, ho, hc⟩ := (hr Bx e.symm).2
        rw [h2] at ho; cases ho; cases hc)).trans h2, h3⟩)
    ?assign ?body ?done ?stop
  case assign =>
    rintro l pre x W K ⟨⟨⟨v, bE1, he1⟩, bS1⟩, hB1⟩ hK
    dsimp only [encC]
    gi_wp2
    have hb2 : Below W.heap.size W (W.alloc (.cells #[.string x.2.1, .int .i64 x.2.2] 32)) := (Below.refl _ W).alloc (Nat.le_refl _) _
    exact hK _ _ ((KeepsOthers.alloc _ _).from _) ⟨hb2.mono hB1.size, Below.heap_alloc _ _ _ bS1.lt⟩ ⟨⟨⟨v, bE1.alloc _, he1.below hb2⟩, bS1.alloc _⟩, hB1.alloc hB1.size _⟩ ⟨W.heap.size, bS1.lt, World.alloc_heap_new W _, rfl⟩
  case body =>
    rintro l pre x a' W hl ⟨r, hr⟩ ⟨⟨⟨v, bE1, he1⟩, bS1⟩, hB1⟩ ⟨Bx, hBx, bX, rfl⟩ hlt
    have cE := bE1.cell
    have fE := bE1.frozen
    have c0 : W.cell? ⟨Bx, 0, none⟩ = some (.string x.2.1) := by rw [cells_of_block bX]; rfl
    have c1 : W.cell? ⟨Bx, 1, none⟩ = some (.int .i64 x.2.2) := by rw [cells_of_block bX]; rfl
    have hN := new_of x.2.1 x.2.2 W he1
    have hb2 : Below W.heap.size W (W.alloc (.cells #[.string x.2.1, .int .i64 x.2.2, v, .bool true] 56)) := (Below.refl _ W).alloc (Nat.le_refl _) _
    have he2 : IsErr (W.alloc (.cells #[.string x.2.1, .int .i64 x.2.2, v, .bool true] 56)) (.iface 53 (.pointer (some ⟨W.heap.size, 0, none⟩))) ((pre ++ [x]).map (·.2)).reverse none := by
      rw [List.map_append, List.reverse_append]
      exact ⟨W.heap.size, v, rfl, World.alloc_heap_new W _, he1.below hb2⟩
    have he3 := he2.setBox (bE1.alloc _) (.iface 53 (.pointer (some ⟨W.heap.size, 0, none⟩)))
    have cE2 := (bE1.alloc (.cells #[.string x.2.1, .int .i64 x.2.2, v, .bool true] 56)).cell
    have fE2 := (bE1.alloc (.cells #[.string x.2.1, .int .i64 x.2.2, v, .bool true] 56)).frozen
    have hA : Hid (KeepsFrom W0.heap.size W ((W.alloc (.cells #[.string x.2.1, .int .i64 x.2.2, v, .bool true] 56)).setCell ⟨w.heap.size, 0, none⟩ (.iface 53 (.pointer (some ⟨W.heap.size, 0, none⟩)))) ∧ KeepB w.heap.size (w.heap.size + 1) W ((W.alloc (.cells #[.string x.2.1, .int .i64 x.2.2, v, .bool true] 56)).setCell ⟨w.heap.size, 0, none⟩ (.iface 53 (.pointer (some ⟨W.heap.size, 0, none⟩)))) ∧
      ((Inv w.heap.size (pre ++ [x]) ((W.alloc (.cells #[.string x.2.1, .int .i64 x.2.2, v, .bool true] 56)).setCell ⟨w.heap.size, 0, none⟩ (.iface 53 (.pointer (some ⟨W.heap.size, 0, none⟩)))) ∧ Boxed ((W.alloc (.cells #[.string x.2.1, .int .i64 x.2.2, v, .bool true] 56)).setCell ⟨w.heap.size, 0, none⟩ (.iface 53 (.pointer (some ⟨W.heap.size, 0, none⟩)))) (w.heap.size + 1) 22 (.slice a len cap)) ∧ Below w.heap.size w ((W.alloc (.cells #[.string x.2.1, .int .i64 x.2.2, v, .bool true] 56)).setCell ⟨w.heap.size, 0, none⟩ (.iface 53 (.pointer (some ⟨W.heap.size, 0, none⟩)))))) :=
      ⟨((KeepsOthers.alloc _ _).trans (KeepsOthers.setCell _ _ _)).from _,
       ⟨(hb2.mono hB1.size).setCell (p := ⟨w.heap.size, 0, none⟩) (Nat.le_refl _) _, (Below.heap_setCell _ _ _ _ (by simp)).trans (Below.heap_alloc _ _ _ bS1.lt)⟩,
       ⟨⟨_, (bE1.alloc _).set _, he3⟩, (bS1.alloc _).other (by omega) _⟩, (hB1.trans (hb2.mono hB1.size)).setCell (p := ⟨w.heap.size, 0, none⟩) (Nat.le_refl _) _⟩
    clear he1 he2 he3 bE1 bS1 bX hb2 hr hlt hB1 hC
    gi_wp2_with (refine ⟨trivial, ?_⟩; gi_at_call 20; refine (CallsIn.inRound l (callsIn_wide.2 hN)).mono ?_; rintro e w' ⟨rfl, rfl⟩)
    exact hA.out
  case done =>
    rintro D ys W hD hys ⟨⟨⟨v, bE1, he1⟩, bS1⟩, hB1⟩ hK
    have cE := bE1.cell
    gi_wp2
    refine ⟨by simp, .inl ⟨_, _, rfl, run_takeDeferred hK, ?_⟩⟩
    refine ⟨_, results_tmp rfl _ _ _, v, rfl, ?_, hB1.trans (belowK_b (w := w) (Nat.le_refl _) W D _ _ (by omega) hK rfl rfl)⟩
    have := he1.kept (grownBy_putObj' W D (.deferred none)) (fun r e => by cases e; exact ⟨_, hK, rfl⟩)
    rwa [hys, List.reverse_reverse] at this
  case stop =>
    rintro D c pre W _ _ h _
    exact h.elim
end Go.Proofs.YtgffbicdfclcmaaDoor
