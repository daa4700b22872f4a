import Derived.Test.YtfpbgfmnjpamlaaGreatHt17
import Derived.Test.YtfpbgfmnjpamlaaGreatHt20
import Derived.Test.YtfpbgfmnjpamlaaGreatHt21
/- both at intents: two lists as one, by rising keys. -/
namespace Go.Proofs.YtfpbgfmnjpamlaaGreat
open Go.RowKit LeaseMath
set_option maxRecDepth 100000
set_option linter.unusedSimpArgs false
set_option linter.unusedVariables false

theorem keyx_ex (x : It) (W : World) : Calls Tryz.prog 106 #[iv x] W fun e w' => e = .returned (.string (bk x.1)) ∧ ∃ q os', w' = Go.Sort.grow (W.drewN q) os' := by
  obtain ⟨k, ⟨c, q⟩, kd, tk, tt⟩ := x
  obtain ⟨hs, hb, cl⟩ := it_box W (k, (c, q), kd, tk, tt)
  obtain ⟨c0, c1, c2, c3, c4, c5⟩ := cl _ (Below.refl _ _)
  dsimp only [iv, ic] at *
  clear cl
  go_enter Tryz.func106, Tryz.ntmps106
  go_wp2
  go_ret
  exact ⟨rfl, 0, _, Go.Sort.alloc_eq_grow _ _⟩
theorem compare_ex (a b : K) (W : World) : Calls Tryz.prog 139 #[.string (bk a), .string (bk b)] W fun e w' => e = .returned (.int .i64 (cmpM a b)) ∧ ∃ q os', w' = Go.Sort.grow (W.drewN q) os' := by
  refine (compare_of a b W).mono ?_
  rintro e w' ⟨rfl, rfl⟩
  exact ⟨rfl, 0, #[], by rw [Go.Sort.grow_empty]; rfl⟩

set_option maxHeartbeats 2000000 in
theorem bothx1_of (x y : It) (W : World) (p : Nat) (hp : W.cell? ⟨p, 0, none⟩ = some (.func (.func 106) #[] #[])) :
    Calls Tryz.prog 158 #[iv x, iv y, .pointer (some ⟨p, 0, none⟩)] W fun e w' => e = .returned (.int .i64 (cmpM x.1 y.1)) ∧ ∃ q os', w' = Go.Sort.grow (W.drewN q) os' := by
  obtain ⟨h1, b1, l1⟩ := it_box W x
  obtain ⟨h2, b2, l2⟩ := it_box (W.alloc (ic x)) y
  rw [h1] at h2 b2 l2
  have hpl := World.block_lt_of_cell? W _ hp
  dsimp only at hpl
  have hp2 := ((b1.trans (b2.mono (Nat.le_succ _))).cell (p := ⟨p, 0, none⟩) hpl).trans hp
  obtain ⟨c0, c1, c2, c3, c4, c5⟩ := l1 _ b2
  obtain ⟨d0, d1, d2, d3, d4, d5⟩ := l2 _ (Below.refl _ _)
  have hz1 : p < ((W.alloc (ic x)).alloc (ic y)).heap.size := by omega
  have hz2 : W.heap.size < ((W.alloc (ic x)).alloc (ic y)).heap.size := by omega
  have hz3 : W.heap.size + 1 < ((W.alloc (ic x)).alloc (ic y)).heap.size := by omega
  have gp := cell_grown (a := ⟨p, 0, none⟩) hz1 hp2
  have e0 := cell_grown (a := ⟨W.heap.size, 0, none⟩) hz2 c0
  have e1 := cell_grown (a := ⟨W.heap.size, 1, none⟩) hz2 c1
  have e2 := cell_grown (a := ⟨W.heap.size, 2, none⟩) hz2 c2
  have e3 := cell_grown (a := ⟨W.heap.size, 3, none⟩) hz2 c3
  have e4 := cell_grown (a := ⟨W.heap.size, 4, none⟩) hz2 c4
  have e5 := cell_grown (a := ⟨W.heap.size, 5, none⟩) hz2 c5
  have f0 := cell_grown (a := ⟨W.heap.size + 1, 0, none⟩) hz3 d0
  have f1 := cell_grown (a := ⟨W.heap.size + 1, 1, none⟩) hz3 d1
  have f2 := cell_grown (a := ⟨W.heap.size + 1, 2, none⟩) hz3 d2
  have f3 := cell_grown (a := ⟨W.heap.size + 1, 3, none⟩) hz3 d3
  have f4 := cell_grown (a := ⟨W.heap.size + 1, 4, none⟩) hz3 d4
  have f5 := cell_grown (a := ⟨W.heap.size + 1, 5, none⟩) hz3 d5
  have hfin : ∀ n os, Hid (∃ q os', Go.Sort.grow (((W.alloc (ic x)).alloc (ic y)).drewN n) os = Go.Sort.grow (W.drewN q) os') := fun n os => by
    refine ⟨n, #[ic x] ++ #[ic y] ++ os, ?_⟩
    rw [Go.Sort.alloc_eq_grow, Go.Sort.alloc_eq_grow, Go.Sort.grow_grow]
    show Go.Sort.grow (Go.Sort.grow (W.drewN n) (#[ic x] ++ #[ic y])) os = _
    rw [Go.Sort.grow_grow]
  have K1 := fun W' => keyx_ex x W'
  have K2 := fun W' => keyx_ex y W'
  have K3 := fun W' => compare_ex x.1 y.1 W'
  obtain ⟨k, ⟨c, q⟩, kd, tk, tt⟩ := x
  obtain ⟨k', ⟨c', q'⟩, kd', tk', tt'⟩ := y
  generalize cmpM k k' = CM at *
  dsimp only [iv, ic] at *
  have mixed : Tryz.prog.follows .mixedOrders = true := by kernel_rfl
  clear l1 l2 hp hp2 b1 b2 hpl hz1 hz2 hz3 c0 c1 c2 c3 c4 c5 d0 d1 d2 d3 d4 d5 h1 h2
  go_enter Tryz.func158, Tryz.ntmps158
  go_wp2
  go_quiet_grown (first | (go_at_call 106; first | refine Calls.grown_of (K1 _) | refine Calls.grown_of (K2 _)) | (go_at_call 139; refine Calls.grown_of (K3 _)))
  go_wp2
  go_ret
  exact ⟨rfl, (hfin _ _).out⟩

set_option maxHeartbeats 2000000 in
theorem sortx_of {w : World} {g n cap p : Nat} {xs m : List It} (h : Rk itE w 63 (.slice (some ⟨g, 0, none⟩) n cap) xs) (hp : w.cell? ⟨p, 0, none⟩ = some (.func (.func 106) #[] #[])) (hpg : p ≠ g) (hlen : xs.length ≤ 1000000) (hm : m.Perm xs) (hpw : m.Pairwise (fun a b => a.1 < b.1)) :
    Calls Tryz.prog 157 #[.slice (some ⟨g, 0, none⟩) n cap, .func (.func 158) #[] #[.pointer (some ⟨p, 0, none⟩)]] w fun e w' => e = .returned (.tuple #[]) ∧ Rk itE w' 63 (.slice (some ⟨g, 0, none⟩) n cap) m ∧ ∀ n0, n0 ≤ g → Below n0 w w' := by
  obtain ⟨ao, cp, e, -⟩ := h.shape
  obtain ⟨rfl, -⟩ : n = xs.length ∧ True := by cases e; exact ⟨rfl, trivial⟩
  have hgl := h.lt (k := g) rfl
  have hpl := World.block_lt_of_cell? w _ hp
  have eg : ∀ args w, (callFunc 158 args).run Tryz.prog w = .ok (.enter 158 args) w := enters_of Tryz.func158 (by kernel_rfl) rfl
  have hcmp : CmpLays Tryz.prog 158 #[.pointer (some ⟨p, 0, none⟩)] itE.enc 6 (fun x y : It => cmpM x.1 y.1) g 0 xs.length w := fun m os dk hdk x y => by
    refine bothx1_of x y _ p ?_
    unfold Go.Proofs.sortWorldK
    rw [Go.Sort.cell?_grow _ _ _ (by rw [Go.Sort.size_putRowK]; exact hpl), Go.Sort.cell?_putRowK_other _ _ _ _ _ _ _ hpg]
    exact hp
  have hcon := AnyQ.slices_SortFunc Tryz.sortx 6 Tryz.isAgg63 Tryz.sizeOf63 itE.enc (fun _ => rfl) (fun x v hv => itE.one x v hv) (fun x y : It => cmpM x.1 y.1) swo_key 158 #[.pointer (some ⟨p, 0, none⟩)] g 0 cap xs.toArray w eg (by simpa using hcmp) h.holdsK hgl (by simp; omega)
  have hcon' : Calls Tryz.prog 157 #[.slice (some ⟨g, 0, none⟩) xs.length cap, .func (.func 158) #[] #[.pointer (some ⟨p, 0, none⟩)]] w _ := hcon
  refine hcon'.mono ?_
  rintro e w' ⟨rfl, d', n', os, hpm, hso, rfl⟩
  have hsz : d'.size = xs.length := by simpa using hpm.1
  have hpl' : d'.toList.Perm xs := by
    have := hpm.2.2
    rw [show xs.toArray.size = d'.size by simp [hsz]] at this
    rw [Array.extract_size] at this
    rw [show xs.toArray.extract 0 d'.size = xs.toArray by rw [show d'.size = xs.toArray.size by simp [hsz]]; exact Array.extract_size] at this
    simpa using this
  have he : d'.toList = m := sorted_eq (by simpa using hso) hpl' hm hpw
  obtain ⟨r1, r2⟩ := h.sorted (m := n') (d' := d') (os := os) hsz
  exact ⟨rfl, by rw [← he]; exact r1, r2⟩

set_option maxHeartbeats 2000000 in
theorem bothx_of (xs ys m : List It) (xa ya : Sa) (w : World) (hX : Rd itE w (.slice xa.1 xs.length xa.2) xs) (hY : Rd itE w (.slice ya.1 ys.length ya.2) ys) (h0 : 0 < xs.length + ys.length) (hlen : xs.length + ys.length ≤ 3000) (hm : m.Perm (xs ++ ys)) (hpw : m.Pairwise (fun a b => a.1 < b.1)) :
    Calls Tryz.prog 105 #[.slice xa.1 xs.length xa.2, .slice ya.1 ys.length ya.2, .func (.func 106) #[] #[]] w fun e w' => (∃ v, e = .returned v ∧ Ow itE 63 w.heap.size w' v m) ∧ Below w.heap.size w w' := by
  obtain ⟨h1, b1, l1⟩ := box_all w #[.func (.func 106) #[] #[]] 145
  obtain ⟨h2, b2, l2⟩ := box_all (w.alloc (.cells #[.func (.func 106) #[] #[]] 145)) #[.slice xa.1 xs.length xa.2, .slice ya.1 ys.length ya.2] 25
  rw [h1] at h2 b2 l2
  have bb := b1.trans (b2.mono (Nat.le_succ _))
  have K1 := concatx_of (w.heap.size + 1) [.slice xa.1 xs.length xa.2, .slice ya.1 ys.length ya.2] [xs, ys] ((w.alloc (.cells #[.func (.func 106) #[] #[]] 145)).alloc (.cells #[.slice xa.1 xs.length xa.2, .slice ya.1 ys.length ya.2] 25)) (fun i v hv => l2 _ (Below.refl _ _) i v (by simpa using hv)) (fun i v l hv hl => by
    match i with
    | 0 => simp at hv hl; subst hv hl; exact hX.below bb
    | 1 => simp at hv hl; subst hv hl; exact hY.below bb
    | i + 2 => simp at hv) 2 (by omega) rfl rfl (by simpa using h0) (by simpa using hlen)
  have K1' : Calls Tryz.prog 156 #[.slice (some ⟨w.heap.size + 1, 0, none⟩) 2 2] ((w.alloc (.cells #[.func (.func 106) #[] #[]] 145)).alloc (.cells #[.slice xa.1 xs.length xa.2, .slice ya.1 ys.length ya.2] 25)) fun e w' => (∃ g cap, e = .returned (.slice (some ⟨g, 0, none⟩) (xs.length + ys.length) cap) ∧ w.heap.size + 2 ≤ g ∧ Rk itE w' 63 (.slice (some ⟨g, 0, none⟩) (xs.length + ys.length) cap) (xs ++ ys)) ∧ Below (w.heap.size + 2) ((w.alloc (.cells #[.func (.func 106) #[] #[]] 145)).alloc (.cells #[.slice xa.1 xs.length xa.2, .slice ya.1 ys.length ya.2] 25)) w' := by
    refine K1.mono ?_
    rintro e w' ⟨v, rfl, hO, hb⟩
    rw [h2] at hO hb
    rw [show [xs, ys].flatten = xs ++ ys by simp] at hO
    obtain ⟨g, cap, cur, hv, _⟩ := hO.1.cells (by rw [List.length_append]; exact h0)
    rw [List.length_append] at hv
    subst hv
    exact ⟨⟨g, cap, rfl, hO.2 g rfl, hO.1⟩, hb⟩
  have hkey : ∀ W, Below (w.heap.size + 2) ((w.alloc (.cells #[.func (.func 106) #[] #[]] 145)).alloc (.cells #[.slice xa.1 xs.length xa.2, .slice ya.1 ys.length ya.2] 25)) W → W.cell? ⟨w.heap.size, 0, none⟩ = some (.func (.func 106) #[] #[]) := fun W hW => l1 W (b2.trans (hW.mono (Nat.le_succ _))) 0 _ rfl
  have hml : m.length = xs.length + ys.length := by rw [hm.length_eq, List.length_append]
  clear K1 l1 l2 h1 hX hY
  go_enter Tryz.func105, Tryz.ntmps105
  go_wp2_with fail
  refine K1'.mono ?_
  rintro e w3 ⟨⟨g, cap, rfl, hg, hR⟩, hb3⟩
  have K2 := sortx_of hR (hkey w3 hb3) (by omega) (by rw [List.length_append]; omega) hm hpw
  have hb3' := bb.trans (hb3.mono (by omega))
  clear K1' hkey hR
  go_wp2_with fail
  refine K2.mono ?_
  rintro e w4 ⟨rfl, hR4, hB4⟩
  have hb4 := hb3'.trans (hB4 w.heap.size (by omega))
  clear K2 hB4
  go_wp2
  go_ret
  exact ⟨⟨_, rfl, hR4, fun k hk => by have e := Option.some.inj (show some g = some k from hk); omega⟩, hb4⟩
end Go.Proofs.YtfpbgfmnjpamlaaGreat

