import Derived.Test.YtfpbgfmnjpamlaaGreatHv14
import Derived.Test.YtfpbgfmnjpamlaaGreatHv17
import Derived.Test.YtfpbgfmnjpamlaaGreatHv18
import Derived.Test.YtfpbgfmnjpamlaaGreatHv11
/- both at intents: two lists as one, by rising keys. -/
namespace Go.Proofs.YtfpbgfmnjpamlaaGreat
open Go.RowKit LeaseMath
set_option maxRecDepth 100000
set_option linter.unusedSimpArgs false
set_option linter.unusedVariables false

theorem keyx_ex (x : It) (W : World) : Calls Tryz.prog 106 #[iv x] W fun e w' => e = .returned (.string (bk x.1)) ∧ ∃ q os', w' = Go.Sort.grow (W.drewN q) os' := by
 obtain ⟨k, ⟨c, q⟩, kd, tk, tt⟩ := x
 obtain ⟨hs, hb, cl⟩ := it_box W (k, (c, q), kd, tk, tt)
 obtain ⟨c0, c1, c2, c3, c4, c5⟩ := cl _ (Below.refl _ _)
 dsimp only [iv, ic] at *
 clear cl
 go_enter Tryz.func106, Tryz.ntmps106
 go_wp2
 go_ret
 exact ⟨rfl, 0, _, Go.Sort.alloc_eq_grow _ _⟩
theorem compare_ex (a b : K) (W : World) : Calls Tryz.prog 139 #[.string (bk a), .string (bk b)] W fun e w' => e = .returned (.int .i64 (cmpM a b)) ∧ ∃ q os', w' = Go.Sort.grow (W.drewN q) os' := by
 refine (compare_of a b W).mono ?_
 rintro e w' ⟨rfl, rfl⟩
 exact ⟨rfl, 0, #[], by rw [Go.Sort.grow_empty]; rfl⟩

set_option maxHeartbeats 2000000 in
theorem bothx1_of (x y : It) (W : World) (p : Nat) (hp : W.cell? ⟨p, 0, none⟩ = some (.func (.func 106) #[] #[])) :
  Calls Tryz.prog 158 #[iv x, iv y, .pointer (some ⟨p, 0, none⟩)] W fun e w' => e = .returned (.int .i64 (cmpM x.1 y.1)) ∧ ∃ q os', w' = Go.Sort.grow (W.drewN q) os' := by
 obtain ⟨h1, b1, l1⟩ := it_box W x
 obtain ⟨h2, b2, l2⟩ := it_box (W.alloc (ic x)) y
 rw [h1] at h2 b2 l2
 have hpl := World.block_lt_of_cell? W _ hp
 dsimp only at hpl
 have hp2 := ((b1.trans (b2.mono (Nat.le_succ _))).cell (p := ⟨p, 0, none⟩) hpl).trans hp
 obtain ⟨c0, c1, c2, c3, c4, c5⟩ := l1 _ b2
 obtain ⟨d0, d1, d2, d3, d4, d5⟩ := l2 _ (Below.refl _ _)
 have hz1 : p < ((W.alloc (ic x)).alloc (ic y)).heap.size := by omega
 have hz2 : W.heap.size < ((W.alloc (ic x)).alloc (ic y)).heap.size := by omega
 have hz3 : W.heap.size + 1 < ((W.alloc (ic x)).alloc (ic y)).heap.size := by omega
 have gp := cell_grown (a := ⟨p, 0, none⟩) hz1 hp2
 have e0 := cell_grown (a := ⟨W.heap.size, 0, none⟩) hz2 c0
 have e1 := cell_grown (a := ⟨W.heap.size, 1, none⟩) hz2 c1
 have e2 := cell_grown (a := ⟨W.heap.size, 2, none⟩) hz2 c2
 have e3 := cell_grown (a := ⟨W.heap.size, 3, none⟩) hz2 c3
 have e4 := cell_grown (a := ⟨W.heap.size, 4, none⟩) hz2 c4
 have e5 := cell_grown (a := ⟨W.heap.size, 5, none⟩) hz2 c5
 have f0 := cell_grown (a := ⟨W.heap.size + 1, 0, none⟩) hz3 d0
 have f1 := cell_grown (a := ⟨W.heap.size + 1, 1, none⟩) hz3 d1
 have f2 := cell_grown (a := ⟨W.heap.size + 1, 2, none⟩) hz3 d2
 have f3 := cell_grown (a := ⟨W.heap.size + 1, 3, none⟩) hz3 d3
 have f4 := cell_grown (a := ⟨W.heap.size + 1, 4, none⟩) hz3 d4
 have f5 := cell_grown (a := ⟨W.heap.size + 1, 5, none⟩) hz3 d5
 have hfin : ∀ n os, Hid (∃ q os', Go.Sort.grow (((W.alloc (ic x)).alloc (ic y)).drewN n) os = Go.Sort.grow (W.drewN q) os') := fun n os => by
  refine ⟨n, #[ic x] ++ #[ic y] ++ os, ?_⟩
  rw [Go.Sort.alloc_eq_grow, Go.Sort.alloc_eq_grow, Go.Sort.grow_grow]
  show Go.Sort.grow (Go.Sort.grow (W.drewN n) (#[ic x] ++ #[ic y])) os = _
  rw [Go.Sort.grow_grow]
 have K1 := fun W' => keyx_ex x W'
 have K2 := fun W' => keyx_ex y W'
 have K3 := fun W' => compare_ex x.1 y.1 W'
 obtain ⟨k, ⟨c, q⟩, kd, tk, tt⟩ := x
 obtain ⟨k', ⟨c', q'⟩, kd', tk', tt'⟩ := y
 generalize cmpM k k' = CM at *
 dsimp only [iv, ic] at *
 have mixed : Tryz.prog.follows .mixedOrders = true := by kernel_rfl
 clear l1 l2 hp hp2 b1 b2 hpl hz1 hz2 hz3 c0 c1 c2 c3 c4 c5 d0 d1 d2 d3 d4 d5 h1 h2
 go_enter Tryz.func158, Tryz.ntmps158
 go_wp2
 go_quiet_grown (first | (go_at_call 106; first | refine Calls.grown_of (K1 _) | refine Calls.grown_of (K2 _)) | (go_at_call 139; refine Calls.grown_of (K3 _)))
 go_wp2
 go_ret
 exact ⟨rfl, (hfin _ _).out⟩

set_option maxHeartbeats 2000000 in
theorem sortx_of {w : World} {g n cap p : Nat} {xs m : List It} (h : Rk itE w 63 (.slice (some ⟨g, 0, none⟩) n cap) xs) (hp : w.cell? ⟨p, 0, none⟩ = some (.func (.func 106) #[] #[])) (hpg : p ≠ g) (hlen : xs.length ≤ 1000000) (hm : m.Perm xs) (hpw : m.Pairwise (fun a b => a.1 < b.1)) :
  Calls Tryz.prog 157 #[.slice (some ⟨g, 0, none⟩) n cap, .func (.func 158) #[] #[.pointer (some ⟨p, 0, none⟩)]] w fun e w' => e = .returned (.tuple #[]) ∧ Rk itE w' 63 (.slice (some ⟨g, 0, none⟩) n cap) m ∧ ∀ n0, n0 ≤ g → Below n0 w w' := by
 obtain ⟨ao, cp, e, -⟩ := h.shape
 obtain ⟨rfl, -⟩ : n = xs.length ∧ True := by cases e; exact ⟨rfl, trivial⟩
 have hgl := h.lt (k := g) rfl
 have hpl := World.block_lt_of_cell? w _ hp
 have eg : ∀ args w, (callFunc 158 args).run Tryz.prog w = .ok (.enter 158 args) w := enters_of Tryz.func158 (by kernel_rfl) rfl
 have hcmp : CmpLays Tryz.prog 158 #[.pointer (some ⟨p, 0, none⟩)] itE.enc 6 (fun x y : It => cmpM x.1 y.1) g 0 xs.length w := fun m os dk hdk x y => by
  refine bothx1_of x y _ p ?_
  unfold Go.Proofs.sortWorldK
  rw [Go.Sort.cell?_grow _ _ _ (by rw [Go.Sort.size_putRowK]; exact hpl), Go.Sort.cell?_putRowK_other _ _ _ _ _ _ _ hpg]
  exact hp
 have hcon := AnyQ.slices_SortFunc Tryz.sortx 6 Tryz.isAgg63 Tryz.sizeOf63 itE.enc (fun _ => rfl) (fun x v hv => itE.one x v hv) (fun x y : It => cmpM x.1 y.1) swo_key 158 #[.pointer (some ⟨p, 0, none⟩)] g 0 cap xs.toArray w eg (by simpa using hcmp) h.holdsK hgl (by simp; omega)
 have hcon' : Calls Tryz.prog 157 #[.slice (some ⟨g, 0, none⟩) xs.length cap, .func (.func 158) #[] #[.pointer (some ⟨p, 0, none⟩)]] w _ := hcon
 refine hcon'.mono ?_
 rintro e w' ⟨rfl, d', n', os, hpm, hso, rfl⟩
 have hsz : d'.size = xs.length := by simpa using hpm.1
 have hpl' : d'.toList.Perm xs := by
  have := hpm.2.2
  rw [show xs.toArray.size = d'.size by simp [hsz]] at this
  rw [Array.extract_size] at this
  rw [show xs.toArray.extract 0 d'.size = xs.toArray by rw [show d'.size = xs.toArray.size by simp [hsz]]; exact Array.extract_size] at this
  simpa using this
 have he : d'.toList = m := sorted_eq (by simpa using hso) hpl' hm hpw
 obtain ⟨r1, r2⟩ := h.sorted (m := n') (d' := d') (os := os) hsz
 exact ⟨rfl, by rw [← he]; exact r1, r2⟩

set_option maxHeartbeats 2000000 in
theorem bothx_of (xs ys m : List It) (xa ya : Sa) (w : World) (hX : Rd itE w (.slice xa.1 xs.length xa.2) xs) (hY : Rd itE w (.slice ya.1 ys.length ya.2) ys) (h0 : 0 < xs.length + ys.length) (hlen : xs.length + ys.length ≤ 3000) (hm : m.Perm (xs ++ ys)) (hpw : m.Pairwise (fun a b => a.1 < b.1)) :
  Calls Tryz.prog 105 #[.slice xa.1 xs.length xa.2, .slice ya.1 ys.length ya.2, .func (.func 106) #[] #[]] w fun e w' => (∃ v, e = .returned v ∧ Ow itE 63 w.heap.size w' v m) ∧ Below w.heap.size w w' := by
 obtain ⟨h1, b1, l1⟩ := box_all w #[.func (.func 106) #[] #[]] 145
 obtain ⟨h2, b2, l2⟩ := box_all (w.alloc (.cells #[.func (.func 106) #[] #[]] 145)) #[.slice xa.1 xs.length xa.2, .slice ya.1 ys.length ya.2] 25
 rw [h1] at h2 b2 l2
 have bb := b1.trans (b2.mono (Nat.le_succ _))
 have K1 := concatx_of (w.heap.size + 1) [.slice xa.1 xs.length xa.2, .slice ya.1 ys.length ya.2] [xs, ys] ((w.alloc (.cells #[.func (.func 106) #[] #[]] 145)).alloc (.cells #[.slice xa.1 xs.length xa.2, .slice ya.1 ys.length ya.2] 25)) (fun i v hv => l2 _ (Below.refl _ _) i v (by simpa using hv)) (fun i v l hv hl => by
  match i with
  | 0 => simp at hv hl; subst hv hl; exact hX.below bb
  | 1 => simp at hv hl; subst hv hl; exact hY.below bb
  | i + 2 => simp at hv) 2 (by omega) rfl rfl (by simpa using h0) (by simpa using hlen)
 have K1' : Calls Tryz.prog 156 #[.slice (some ⟨w.heap.size + 1, 0, none⟩) 2 2] ((w.alloc (.cells #[.func (.func 106) #[] #[]] 145)).alloc (.cells #[.slice xa.1 xs.length xa.2, .slice ya.1 ys.length ya.2] 25)) fun e w' => (∃ g cap, e = .returned (.slice (some ⟨g, 0, none⟩) (xs.length + ys.length) cap) ∧ w.heap.size + 2 ≤ g ∧ Rk itE w' 63 (.slice (some ⟨g, 0, none⟩) (xs.length + ys.length) cap) (xs ++ ys)) ∧ Below (w.heap.size + 2) ((w.alloc (.cells #[.func (.func 106) #[] #[]] 145)).alloc (.cells #[.slice xa.1 xs.length xa.2, .slice ya.1 ys.length ya.2] 25)) w' := by
  refine K1.mono ?_
  rintro e w' ⟨v, rfl, hO, hb⟩
  rw [h2] at hO hb
  rw [show [xs, ys].flatten = xs ++ ys by simp] at hO
  obtain ⟨g, cap, cur, hv, _⟩ := hO.1.cells (by rw [List.length_append]; exact h0)
  rw [List.length_append] at hv
  subst hv
  exact ⟨⟨g, cap, rfl, hO.2 g rfl, hO.1⟩, hb⟩
 have hkey : ∀ W, Below (w.heap.size + 2) ((w.alloc (.cells #[.func (.func 106) #[] #[]] 145)).alloc (.cells #[.slice xa.1 xs.length xa.2, .slice ya.1 ys.length ya.2] 25)) W → W.cell? ⟨w.heap.size, 0, none⟩ = some (.func (.func 106) #[] #[]) := fun W hW => l1 W (b2.trans (hW.mono (Nat.le_succ _))) 0 _ rfl
 have hml : m.length = xs.length + ys.length := by rw [hm.length_eq, List.length_append]
 clear K1 l1 l2 h1 hX hY
 go_enter Tryz.func105, Tryz.ntmps105
 go_wp2_with fail
 refine K1'.mono ?_
 rintro e w3 ⟨⟨g, cap, rfl, hg, hR⟩, hb3⟩
 have K2 := sortx_of hR (hkey w3 hb3) (by omega) (by rw [List.length_append]; omega) hm hpw
 have hb3' := bb.trans (hb3.mono (by omega))
 clear K1' hkey hR
 go_wp2_with fail
 refine K2.mono ?_
 rintro e w4 ⟨rfl, hR4, hB4⟩
 have hb4 := hb3'.trans (hB4 w.heap.size (by omega))
 clear K2 hB4
 go_wp2
 go_ret
 exact ⟨⟨_, rfl, hR4, fun k hk => by have e := Option.some.inj (show some g = some k from hk); omega⟩, hb4⟩
end Go.Proofs.YtfpbgfmnjpamlaaGreat

/- intending: a table in which a call's keys are about to turn. -/
namespace Go.Proofs.YtfpbgfmnjpamlaaGreat
open Go.RowKit LeaseMath
set_option maxRecDepth 100000
set_option linter.unusedSimpArgs false
set_option linter.unusedVariables false

def moreM (l : List K) (d : Cq) (kd : Int) (tk : Nat) (tt : Int) : List It := l.map fun k => (k, d, kd, tk, tt)
theorem more_step {l : List K} {d : Cq} {kd tt : Int} {tk : Nat} {i : Nat} {k : K} (h : l[i]? = some k) : moreM (l.take (i + 1)) d kd tk tt = moreM (l.take i) d kd tk tt ++ [(k, d, kd, tk, tt)] := by
 unfold moreM
 rw [take_succ_get h, List.map_append]
 rfl
theorem more_len (l : List K) (d : Cq) (kd : Int) (tk : Nat) (tt : Int) (i : Nat) : (moreM (l.take i) d kd tk tt).length ≤ l.length := by
 unfold moreM
 rw [List.length_map, List.length_take]
 omega
theorem four_boxes (w : World) (a b c d : Obj) : ((((w.alloc a).alloc b).alloc c).alloc d).heap.size = w.heap.size + 4 ∧ ((((w.alloc a).alloc b).alloc c).alloc d).heap[w.heap.size]? = some a ∧ ((((w.alloc a).alloc b).alloc c).alloc d).heap[w.heap.size + 1]? = some b ∧ ((((w.alloc a).alloc b).alloc c).alloc d).heap[w.heap.size + 2]? = some c ∧ ((((w.alloc a).alloc b).alloc c).alloc d).heap[w.heap.size + 3]? = some d ∧ Below w.heap.size w ((((w.alloc a).alloc b).alloc c).alloc d) := by
 obtain ⟨a1, a2, a3, a4⟩ := two_boxes6 w a b
 obtain ⟨b1, b2, b3, b4⟩ := two_boxes6 ((w.alloc a).alloc b) c d
 rw [a1] at b1 b2 b3 b4
 exact ⟨b1, (b4.block w.heap.size (by omega)).trans a2, (b4.block (w.heap.size + 1) (by omega)).trans a3, b2, b3, a4.trans (b4.mono (by omega))⟩

set_option maxHeartbeats 4000000 in
theorem intending_acq (z : Tz) (d : Cq) (c : Cl) (a : Sa) (tk : Nat) (m : List It) (w : World) (hR : TbR w z) (hK : Rd kyE w (.slice a.1 c.keys.length a.2) c.keys) (g0 : z.t.spans.length ≤ 1000000) (g1 : z.t.frozen.length ≤ 1000000) (g2 : z.t.holds.length ≤ 1000000) (g3 : z.t.marks.length ≤ 1000000) (g4 : z.t.ints.length + c.keys.length ≤ 3000) (g5 : 0 < c.keys.length) (hk : c.kind = 1) (hm : m.Perm (z.t.ints ++ moreM c.keys d c.kind tk c.ttl)) (hpw : m.Pairwise (fun a b => a.1 < b.1)) :
  Calls Tryz.prog 41 #[tv z, idv d, cv c a, .int .u64 (tk : Int)] w fun e w' => (∃ z', e = .returned (tv z') ∧ z'.t = { z.t with ints := m } ∧ TbO w.heap.size w' z') ∧ Below w.heap.size w w' := by
 have hRH : Hid (TbR w z) := hR
 have hKH : Hid (Rd kyE w (.slice a.1 c.keys.length a.2) c.keys) := hK
 have k1 : Hid (∀ W, Below w.heap.size w W → _) := fun W hW => own_of z W (hRH.out.below hW) g0 g1 g2 g3 (by omega)
 obtain ⟨⟨nw, sp, fr, hs_, ms, is⟩, ⟨sa, sc⟩, ⟨fa, fc⟩, ⟨ha, hc⟩, ⟨ma, mc⟩, ⟨ia, ic_⟩⟩ := z
 obtain ⟨kd, ks, ct, tt⟩ := c
 obtain ⟨ca, cb⟩ := a
 obtain ⟨d1, d2⟩ := d
 dsimp only [tv, idv, cv] at *
 clear hR hK
 obtain ⟨q1, q2, q3, q4, q5, q6⟩ := four_boxes w (.cells #[.int .i64 nw, .slice sa sp.length sc, .slice fa fr.length fc, .slice ha hs_.length hc, .slice ma ms.length mc, .slice ia is.length ic_] 27) (.cells #[.int .i64 d1, .int .u64 (d2 : Int)] 30) (.cells #[.int .i64 kd, .slice ca ks.length cb, .int .u64 (ct : Int), .int .i64 tt] 33) (.cells #[.int .i64 0, .slice none 0 0, .slice none 0 0, .slice none 0 0, .slice none 0 0, .slice none 0 0] 27)
 have hmH : Hid (m.Perm (is ++ moreM ks (d1, d2) kd tk tt)) := hm
 have hpwH : Hid (m.Pairwise (fun a b => a.1 < b.1)) := hpw
 have hml : Hid (is.length + ks.length ≤ 3000) := g4
 have hkl : Hid (0 < ks.length) := g5
 have hks : ks.length ≤ 3000 := by omega
 clear hm hpw g0 g1 g2 g3 g4 g5
 obtain ⟨W4, hW4⟩ : ∃ W, (((w.alloc (.cells #[.int .i64 nw, .slice sa sp.length sc, .slice fa fr.length fc, .slice ha hs_.length hc, .slice ma ms.length mc, .slice ia is.length ic_] 27)).alloc (.cells #[.int .i64 d1, .int .u64 (d2 : Int)] 30)).alloc (.cells #[.int .i64 kd, .slice ca ks.length cb, .int .u64 (ct : Int), .int .i64 tt] 33)).alloc (.cells #[.int .i64 0, .slice none 0 0, .slice none 0 0, .slice none 0 0, .slice none 0 0, .slice none 0 0] 27) = W := ⟨_, rfl⟩
 rw [hW4] at q1 q2 q3 q4 q5 q6
 have HB : Hid (∀ W, Below (w.heap.size + 4) W4 W → Below w.heap.size w W ∧ W.heap[w.heap.size]? = some (.cells #[.int .i64 nw, .slice sa sp.length sc, .slice fa fr.length fc, .slice ha hs_.length hc, .slice ma ms.length mc, .slice ia is.length ic_] 27 (0, 0)) ∧ W.heap[w.heap.size + 3]? = some (.cells #[.int .i64 0, .slice none 0 0, .slice none 0 0, .slice none 0 0, .slice none 0 0, .slice none 0 0] 27 (0, 0))) := fun W hW => ⟨q6.trans (hW.mono (by omega)), (hW.block w.heap.size (by omega)).trans q2, (hW.block (w.heap.size + 3) (by omega)).trans q5⟩
 have HC : Hid (∀ W, Below (w.heap.size + 4) W4 W → W.cell? ⟨w.heap.size + 1, 0, none⟩ = some (.int .i64 d1) ∧ W.cell? ⟨w.heap.size + 1, 1, none⟩ = some (.int .u64 (d2 : Int)) ∧ W.cell? ⟨w.heap.size + 2, 0, none⟩ = some (.int .i64 kd) ∧ W.cell? ⟨w.heap.size + 2, 1, none⟩ = some (.slice ca ks.length cb) ∧ W.cell? ⟨w.heap.size + 2, 2, none⟩ = some (.int .u64 (ct : Int)) ∧ W.cell? ⟨w.heap.size + 2, 3, none⟩ = some (.int .i64 tt)) := fun W hW => by
  have e1 := (hW.block (w.heap.size + 1) (by omega)).trans q3
  have e2 := (hW.block (w.heap.size + 2) (by omega)).trans q4
  exact ⟨by rw [cells_of_block e1]; rfl, by rw [cells_of_block e1]; rfl, by rw [cells_of_block e2]; rfl, by rw [cells_of_block e2]; rfl, by rw [cells_of_block e2]; rfl, by rw [cells_of_block e2]; rfl⟩
 have hz4 : Hid (w.heap.size + 4 ≤ W4.heap.size) := by show _ ≤ _; omega
 obtain ⟨c0, c1, c2, c3, c4, c5⟩ := HC.out W4 (Below.refl _ _)
 clear q1 q2 q3 q4 q5 q6
 go_enter Tryz.func41, Tryz.ntmps41
 subst hk
 go_wp2
 go_loopg [9, 20] ks.length (fun g s9 s20 wr => ∃ (i : Nat) (st : Value), i + g = ks.length ∧ s20 = .int .i64 (i : Int) ∧ st = s9 ∧ Ow itE 63 (w.heap.size + 4) wr st (moreM (ks.take i) (d1, d2) 1 tk tt) ∧ Below (w.heap.size + 4) W4 wr)
 case atStart => exact ⟨0, _, by omega, rfl, rfl, Ow.nil _ _ _ _, Below.refl _ _⟩
 case round =>
  obtain ⟨i, st, hig, rfl, rfl, hO, hb⟩ := hrel
  clear c0 c1 c2 c3 c4 c5
  obtain ⟨c0, c1, c2, c3, c4, c5⟩ := HC.out wr hb
  obtain ⟨xa, xc, hst, -⟩ := hO.1.shape
  by_cases hlt : i < ks.length
  ·have hlti : (i : Int) < (ks.length : Int) := by omega
   have hx : ks[i]? = some ks[i] := List.getElem?_eq_getElem hlt
   obtain ⟨k, hkk⟩ : ∃ k, k = ks[i] := ⟨_, rfl⟩
   rw [← hkk] at hx
   clear hkk
   obtain ⟨b, off, rfl, cc⟩ := rds_at hKH.out hx
   have a0 := cc wr (HB.out wr hb).1
   have hll := more_len ks (d1, d2) 1 tk tt i
   have hrunH : Hid _ := push_it (k, (d1, d2), 1, tk, tt) hO.1 (by omega)
   have HN : Hid _ := more_step (d := (d1, d2)) (kd := 1) (tk := tk) (tt := tt) hx
   have HGP : Hid (∀ v' w', PushT itE 63 wr st (moreM (ks.take i) (d1, d2) 1 tk tt ++ [(k, (d1, d2), 1, tk, tt)]) v' w' → Ow itE 63 (w.heap.size + 4) w' v' (moreM (ks.take (i + 1)) (d1, d2) 1 tk tt) ∧ Below (w.heap.size + 4) wr w') := fun v' w' hp => by
    rw [HN.out]
    exact hO.push (Nat.le_trans hz4.out hb.size) hp
   dsimp only at hrunH
   clear hO hx cc HN hKH hll
   generalize (moreM (ks.take i) (d1, d2) 1 tk tt).length = n1 at hst
   subst hst
   go_wp2_with (at_builtin; refine wp_by rfl _ _ _ rfl _ _ rfl rfl hrunH.out ?_)
   intro v6 w6 hp6
   obtain ⟨hO6, hb6⟩ := HGP.out v6 w6 hp6
   have hb06 := hb.trans hb6
   clear hrunH hp6 hb6 HGP hb
   go_wp2
   go_roundg (gk - 1)
   case measure => omega
   case rel => exact ⟨i + 1, v6, by omega, by go_num, rfl, hO6, hb06⟩
  ·have hlti : ¬ (i : Int) < (ks.length : Int) := by omega
   rw [List.take_of_length_le (by omega)] at hO hst
   obtain ⟨hbw, hblk, hblk3⟩ := HB.out wr hb
   have hzr := Nat.le_trans hz4.out hb.size
   have hml2 : (moreM ks (d1, d2) 1 tk tt).length = ks.length := by unfold moreM; rw [List.length_map]
   rw [hml2] at hst
   obtain ⟨⟨f0, f1, f2, f3, f4, f5⟩, e0, e1, e2, e3, e4, e5⟩ := t_cells hblk
   have K1 := k1.out wr hbw
   clear k1 HC hKH HB
   subst hst
   go_wp2_with fail
   refine K1.mono ?_
   rintro e u1 ⟨⟨z1, rfl, ht1, hT1⟩, hb1⟩
   clear K1 c0 c1 c2 c3 c4 c5 e0 e1 e2 e3 e4 e5 f0 f1 f2 f3 f4 f5
   obtain ⟨t1, ⟨a1, s1⟩, ⟨a2, s2⟩, ⟨a3, s3⟩, ⟨a4, s4⟩, ⟨a5, s5⟩⟩ := z1
   dsimp only at ht1
   subst ht1
   dsimp only [tv] at *
   have B1 := (hb1.block w.heap.size (by omega)).trans hblk
   have B3 := (hb1.block (w.heap.size + 3) (by omega)).trans hblk3
   have hO1 := hO.below hb1
   have hbu1 := keep_step hbw (Nat.le_refl _) hb1
   obtain ⟨⟨f0, f1, f2, f3, f4, f5⟩, e0, e1, e2, e3, e4, e5⟩ := t_cells B1
   have P1 := set6_block B1 (.int .i64 nw) (.slice a1 sp.length s1) (.slice a2 fr.length s2) (.slice a3 hs_.length s3) (.slice a4 ms.length s4) (.slice a5 is.length s5)
   have P3 := (set6_other (g := w.heap.size) (.int .i64 nw) (.slice a1 sp.length s1) (.slice a2 fr.length s2) (.slice a3 hs_.length s3) (.slice a4 ms.length s4) (.slice a5 is.length s5) (by omega : w.heap.size + 3 ≠ w.heap.size)).trans B3
   have PB := set6_below (.int .i64 nw) (.slice a1 sp.length s1) (.slice a2 fr.length s2) (.slice a3 hs_.length s3) (.slice a4 ms.length s4) (.slice a5 is.length s5) (g := w.heap.size) hbu1 (Nat.le_refl _)
   have PT := (hT1.mono hzr).keep (fun k hk _ => set6_other (g := w.heap.size) (.int .i64 nw) (.slice a1 sp.length s1) (.slice a2 fr.length s2) (.slice a3 hs_.length s3) (.slice a4 ms.length s4) (.slice a5 is.length s5) (by omega))
   have PO := hO1.keep (fun k hk _ => set6_other (g := w.heap.size) (.int .i64 nw) (.slice a1 sp.length s1) (.slice a2 fr.length s2) (.slice a3 hs_.length s3) (.slice a4 ms.length s4) (.slice a5 is.length s5) (by omega : k ≠ w.heap.size))
   have PZ : w.heap.size + 4 ≤ (set6 u1 w.heap.size (.int .i64 nw) (.slice a1 sp.length s1) (.slice a2 fr.length s2) (.slice a3 hs_.length s3) (.slice a4 ms.length s4) (.slice a5 is.length s5)).heap.size := by
    have := hb1.size
    unfold set6
    simp
    omega
   unfold set6 at P1 P3 PB PT PO PZ
   obtain ⟨W5, hW5⟩ : ∃ W, (((((u1.setCell ⟨w.heap.size, 0, none⟩ (.int .i64 nw)).setCell ⟨w.heap.size, 1, none⟩ (.slice a1 sp.length s1)).setCell ⟨w.heap.size, 2, none⟩ (.slice a2 fr.length s2)).setCell ⟨w.heap.size, 3, none⟩ (.slice a3 hs_.length s3)).setCell ⟨w.heap.size, 4, none⟩ (.slice a4 ms.length s4)).setCell ⟨w.heap.size, 5, none⟩ (.slice a5 is.length s5) = W := ⟨_, rfl⟩
   rw [hW5] at P1 P3 PB PT PO PZ
   obtain ⟨-, b0, b1, b2, b3, b4, b5⟩ := t_cells P1
   have hPO : Rd itE W5 (.slice xa (moreM ks (d1, d2) 1 tk tt).length xc) (moreM ks (d1, d2) 1 tk tt) := by rw [hml2]; exact PO.1.rd
   have K2 := bothx_of is (moreM ks (d1, d2) 1 tk tt) m (a5, s5) (xa, xc) W5 PT.2.2.2.2.1.rd hPO (by rw [hml2]; have := hkl.out; omega) (by rw [hml2]; exact hml.out) hmH.out hpwH.out
   rw [hml2] at K2
   dsimp only at K2
   clear B1 B3 hO1 hbu1 hT1 hO hPO PO hblk hblk3
   go_wp2_with fail
   refine K2.mono ?_
   rintro e u2 ⟨⟨v2, rfl, hO2⟩, hb2⟩
   obtain ⟨a6, s6, rfl, -, -⟩ := hO2.1.rd.shape
   have B1 := (hb2.block w.heap.size (by omega)).trans P1
   have B3 := (hb2.block (w.heap.size + 3) (by omega)).trans P3
   have BB := keep_step PB (Nat.le_refl _) hb2
   replace PT := PT.below hb2
   replace hO2 : Ow itE 63 (w.heap.size + 4) u2 _ m := hO2.mono PZ
   obtain ⟨⟨f0, f1, f2, f3, f4, f5⟩, e0, e1, e2, e3, e4, e5⟩ := t_cells B1
   have P1' := set_block B1 (j := 5) (.slice a6 m.length s6)
   have P3' : (u2.setCell ⟨w.heap.size, 5, none⟩ (.slice a6 m.length s6)).heap[w.heap.size + 3]? = _ := (set_other (by omega)).trans B3
   have PB' : Below w.heap.size w (u2.setCell ⟨w.heap.size, 5, none⟩ (.slice a6 m.length s6)) := BB.setCell (p := ⟨w.heap.size, 5, none⟩) (Nat.le_refl _) _
   replace PT := PT.keep (w' := u2.setCell ⟨w.heap.size, 5, none⟩ (.slice a6 m.length s6)) (fun k hk _ => set_other (by omega))
   replace hO2 := hO2.keep (w' := u2.setCell ⟨w.heap.size, 5, none⟩ (.slice a6 m.length s6)) (fun k hk _ => set_other (by omega))
   obtain ⟨W6, hW6⟩ : ∃ W, u2.setCell ⟨w.heap.size, 5, none⟩ (.slice a6 m.length s6) = W := ⟨_, rfl⟩
   rw [hW6] at P1' P3' PB' PT hO2
   replace P1' : W6.heap[w.heap.size]? = some (.cells #[.int .i64 nw, .slice a1 sp.length s1, .slice a2 fr.length s2, .slice a3 hs_.length s3, .slice a4 ms.length s4, .slice a6 m.length s6] 27 (0, 0)) := P1'
   clear B1 B3 BB PB P1 P3 K2 b0 b1 b2 b3 b4 b5
   obtain ⟨-, b0, b1, b2, b3, b4, b5⟩ := t_cells P1'
   obtain ⟨⟨g0, g1, g2, g3, g4, g5⟩, j0, j1, j2, j3, j4, j5⟩ := t_cells P3'
   have S6 := set6_block P3' (.int .i64 nw) (.slice a1 sp.length s1) (.slice a2 fr.length s2) (.slice a3 hs_.length s3) (.slice a4 ms.length s4) (.slice a6 m.length s6)
   have B6 := set6_below (.int .i64 nw) (.slice a1 sp.length s1) (.slice a2 fr.length s2) (.slice a3 hs_.length s3) (.slice a4 ms.length s4) (.slice a6 m.length s6) (g := w.heap.size + 3) PB' (by omega)
   have T6 : TbO (w.heap.size + 4) W6 ⟨⟨nw, sp, fr, hs_, ms, m⟩, (a1, s1), (a2, s2), (a3, s3), (a4, s4), (a6, s6)⟩ := ⟨PT.1, PT.2.1, PT.2.2.1, PT.2.2.2.1, hO2⟩
   have T7 := (T6.keep (fun k hk _ => set6_other (g := w.heap.size + 3) (.int .i64 nw) (.slice a1 sp.length s1) (.slice a2 fr.length s2) (.slice a3 hs_.length s3) (.slice a4 ms.length s4) (.slice a6 m.length s6) (by omega))).mono (by omega : w.heap.size ≤ w.heap.size + 4)
   unfold set6 at S6 B6 T7
   clear T6 PT hO2 P1' P3' PB'
   go_wp2
   (try simp only [Exit.inBlock, Exit.then])
   refine bodyPost_ret (results_tb rfl _ _ (w.heap.size + 3) _ _ _ _ _ _ rfl S6) rfl ?_
   exact ⟨⟨_, rfl, rfl, T7⟩, B6⟩

set_option maxHeartbeats 4000000 in
theorem intending_not (z : Tz) (d : Cq) (c : Cl) (a : Sa) (tk : Nat) (m : List It) (w : World) (hR : TbR w z) (hK : Rd kyE w (.slice a.1 c.keys.length a.2) c.keys) (g0 : z.t.spans.length ≤ 1000000) (g1 : z.t.frozen.length ≤ 1000000) (g2 : z.t.holds.length ≤ 1000000) (g3 : z.t.marks.length ≤ 1000000) (g4 : z.t.ints.length + c.keys.length ≤ 3000) (g5 : 0 < c.keys.length) (hk : c.kind ≠ 1) (hm : m.Perm (z.t.ints ++ moreM c.keys d c.kind c.token c.ttl)) (hpw : m.Pairwise (fun a b => a.1 < b.1)) :
  Calls Tryz.prog 41 #[tv z, idv d, cv c a, .int .u64 (tk : Int)] w fun e w' => (∃ z', e = .returned (tv z') ∧ z'.t = { z.t with ints := m } ∧ TbO w.heap.size w' z') ∧ Below w.heap.size w w' := by
 have hRH : Hid (TbR w z) := hR
 have hKH : Hid (Rd kyE w (.slice a.1 c.keys.length a.2) c.keys) := hK
 have k1 : Hid (∀ W, Below w.heap.size w W → _) := fun W hW => own_of z W (hRH.out.below hW) g0 g1 g2 g3 (by omega)
 obtain ⟨⟨nw, sp, fr, hs_, ms, is⟩, ⟨sa, sc⟩, ⟨fa, fc⟩, ⟨ha, hc⟩, ⟨ma, mc⟩, ⟨ia, ic_⟩⟩ := z
 obtain ⟨kd, ks, ct, tt⟩ := c
 obtain ⟨ca, cb⟩ := a
 obtain ⟨d1, d2⟩ := d
 dsimp only [tv, idv, cv] at *
 clear hR hK
 obtain ⟨q1, q2, q3, q4, q5, q6⟩ := four_boxes w (.cells #[.int .i64 nw, .slice sa sp.length sc, .slice fa fr.length fc, .slice ha hs_.length hc, .slice ma ms.length mc, .slice ia is.length ic_] 27) (.cells #[.int .i64 d1, .int .u64 (d2 : Int)] 30) (.cells #[.int .i64 kd, .slice ca ks.length cb, .int .u64 (ct : Int), .int .i64 tt] 33) (.cells #[.int .i64 0, .slice none 0 0, .slice none 0 0, .slice none 0 0, .slice none 0 0, .slice none 0 0] 27)
 have hmH : Hid (m.Perm (is ++ moreM ks (d1, d2) kd ct tt)) := hm
 have hpwH : Hid (m.Pairwise (fun a b => a.1 < b.1)) := hpw
 have hml : Hid (is.length + ks.length ≤ 3000) := g4
 have hkl : Hid (0 < ks.length) := g5
 have hks : ks.length ≤ 3000 := by omega
 clear hm hpw g0 g1 g2 g3 g4 g5
 obtain ⟨W4, hW4⟩ : ∃ W, (((w.alloc (.cells #[.int .i64 nw, .slice sa sp.length sc, .slice fa fr.length fc, .slice ha hs_.length hc, .slice ma ms.length mc, .slice ia is.length ic_] 27)).alloc (.cells #[.int .i64 d1, .int .u64 (d2 : Int)] 30)).alloc (.cells #[.int .i64 kd, .slice ca ks.length cb, .int .u64 (ct : Int), .int .i64 tt] 33)).alloc (.cells #[.int .i64 0, .slice none 0 0, .slice none 0 0, .slice none 0 0, .slice none 0 0, .slice none 0 0] 27) = W := ⟨_, rfl⟩
 rw [hW4] at q1 q2 q3 q4 q5 q6
 have HB : Hid (∀ W, Below (w.heap.size + 4) W4 W → Below w.heap.size w W ∧ W.heap[w.heap.size]? = some (.cells #[.int .i64 nw, .slice sa sp.length sc, .slice fa fr.length fc, .slice ha hs_.length hc, .slice ma ms.length mc, .slice ia is.length ic_] 27 (0, 0)) ∧ W.heap[w.heap.size + 3]? = some (.cells #[.int .i64 0, .slice none 0 0, .slice none 0 0, .slice none 0 0, .slice none 0 0, .slice none 0 0] 27 (0, 0))) := fun W hW => ⟨q6.trans (hW.mono (by omega)), (hW.block w.heap.size (by omega)).trans q2, (hW.block (w.heap.size + 3) (by omega)).trans q5⟩
 have HC : Hid (∀ W, Below (w.heap.size + 4) W4 W → W.cell? ⟨w.heap.size + 1, 0, none⟩ = some (.int .i64 d1) ∧ W.cell? ⟨w.heap.size + 1, 1, none⟩ = some (.int .u64 (d2 : Int)) ∧ W.cell? ⟨w.heap.size + 2, 0, none⟩ = some (.int .i64 kd) ∧ W.cell? ⟨w.heap.size + 2, 1, none⟩ = some (.slice ca ks.length cb) ∧ W.cell? ⟨w.heap.size + 2, 2, none⟩ = some (.int .u64 (ct : Int)) ∧ W.cell? ⟨w.heap.size + 2, 3, none⟩ = some (.int .i64 tt)) := fun W hW => by
  have e1 := (hW.block (w.heap.size + 1) (by omega)).trans q3
  have e2 := (hW.block (w.heap.size + 2) (by omega)).trans q4
  exact ⟨by rw [cells_of_block e1]; rfl, by rw [cells_of_block e1]; rfl, by rw [cells_of_block e2]; rfl, by rw [cells_of_block e2]; rfl, by rw [cells_of_block e2]; rfl, by rw [cells_of_block e2]; rfl⟩
 have hz4 : Hid (w.heap.size + 4 ≤ W4.heap.size) := by show _ ≤ _; omega
 obtain ⟨c0, c1, c2, c3, c4, c5⟩ := HC.out W4 (Below.refl _ _)
 clear q1 q2 q3 q4 q5 q6
 go_enter Tryz.func41, Tryz.ntmps41
 have hkd : (kd != 1) = true := by simpa using hk
 have hke : (kd == 1) = false := by simpa using hk
 clear hk
 go_wp2
 go_loopg [9, 20] ks.length (fun g s9 s20 wr => ∃ (i : Nat) (st : Value), i + g = ks.length ∧ s20 = .int .i64 (i : Int) ∧ st = s9 ∧ Ow itE 63 (w.heap.size + 4) wr st (moreM (ks.take i) (d1, d2) kd ct tt) ∧ Below (w.heap.size + 4) W4 wr)
 case atStart => exact ⟨0, _, by omega, rfl, rfl, Ow.nil _ _ _ _, Below.refl _ _⟩
 case round =>
  obtain ⟨i, st, hig, rfl, rfl, hO, hb⟩ := hrel
  clear c0 c1 c2 c3 c4 c5
  obtain ⟨c0, c1, c2, c3, c4, c5⟩ := HC.out wr hb
  obtain ⟨xa, xc, hst, -⟩ := hO.1.shape
  by_cases hlt : i < ks.length
  ·have hlti : (i : Int) < (ks.length : Int) := by omega
   have hx : ks[i]? = some ks[i] := List.getElem?_eq_getElem hlt
   obtain ⟨k, hkk⟩ : ∃ k, k = ks[i] := ⟨_, rfl⟩
   rw [← hkk] at hx
   clear hkk
   obtain ⟨b, off, rfl, cc⟩ := rds_at hKH.out hx
   have a0 := cc wr (HB.out wr hb).1
   have hll := more_len ks (d1, d2) kd ct tt i
   have hrunH : Hid _ := push_it (k, (d1, d2), kd, ct, tt) hO.1 (by omega)
   have HN : Hid _ := more_step (d := (d1, d2)) (kd := kd) (tk := ct) (tt := tt) hx
   have HGP : Hid (∀ v' w', PushT itE 63 wr st (moreM (ks.take i) (d1, d2) kd ct tt ++ [(k, (d1, d2), kd, ct, tt)]) v' w' → Ow itE 63 (w.heap.size + 4) w' v' (moreM (ks.take (i + 1)) (d1, d2) kd ct tt) ∧ Below (w.heap.size + 4) wr w') := fun v' w' hp => by
    rw [HN.out]
    exact hO.push (Nat.le_trans hz4.out hb.size) hp
   dsimp only at hrunH
   clear hO hx cc HN hKH hll
   generalize (moreM (ks.take i) (d1, d2) kd ct tt).length = n1 at hst
   subst hst
   go_wp2_with (at_builtin; refine wp_by rfl _ _ _ rfl _ _ rfl rfl hrunH.out ?_)
   intro v6 w6 hp6
   obtain ⟨hO6, hb6⟩ := HGP.out v6 w6 hp6
   have hb06 := hb.trans hb6
   clear hrunH hp6 hb6 HGP hb
   go_wp2
   go_roundg (gk - 1)
   case measure => omega
   case rel => exact ⟨i + 1, v6, by omega, by go_num, rfl, hO6, hb06⟩
  ·have hlti : ¬ (i : Int) < (ks.length : Int) := by omega
   rw [List.take_of_length_le (by omega)] at hO hst
   obtain ⟨hbw, hblk, hblk3⟩ := HB.out wr hb
   have hzr := Nat.le_trans hz4.out hb.size
   have hml2 : (moreM ks (d1, d2) kd ct tt).length = ks.length := by unfold moreM; rw [List.length_map]
   rw [hml2] at hst
   obtain ⟨⟨f0, f1, f2, f3, f4, f5⟩, e0, e1, e2, e3, e4, e5⟩ := t_cells hblk
   have K1 := k1.out wr hbw
   clear k1 HC hKH HB
   subst hst
   go_wp2_with fail
   refine K1.mono ?_
   rintro e u1 ⟨⟨z1, rfl, ht1, hT1⟩, hb1⟩
   clear K1 c0 c1 c2 c3 c4 c5 e0 e1 e2 e3 e4 e5 f0 f1 f2 f3 f4 f5
   obtain ⟨t1, ⟨a1, s1⟩, ⟨a2, s2⟩, ⟨a3, s3⟩, ⟨a4, s4⟩, ⟨a5, s5⟩⟩ := z1
   dsimp only at ht1
   subst ht1
   dsimp only [tv] at *
   have B1 := (hb1.block w.heap.size (by omega)).trans hblk
   have B3 := (hb1.block (w.heap.size + 3) (by omega)).trans hblk3
   have hO1 := hO.below hb1
   have hbu1 := keep_step hbw (Nat.le_refl _) hb1
   obtain ⟨⟨f0, f1, f2, f3, f4, f5⟩, e0, e1, e2, e3, e4, e5⟩ := t_cells B1
   have P1 := set6_block B1 (.int .i64 nw) (.slice a1 sp.length s1) (.slice a2 fr.length s2) (.slice a3 hs_.length s3) (.slice a4 ms.length s4) (.slice a5 is.length s5)
   have P3 := (set6_other (g := w.heap.size) (.int .i64 nw) (.slice a1 sp.length s1) (.slice a2 fr.length s2) (.slice a3 hs_.length s3) (.slice a4 ms.length s4) (.slice a5 is.length s5) (by omega : w.heap.size + 3 ≠ w.heap.size)).trans B3
   have PB := set6_below (.int .i64 nw) (.slice a1 sp.length s1) (.slice a2 fr.length s2) (.slice a3 hs_.length s3) (.slice a4 ms.length s4) (.slice a5 is.length s5) (g := w.heap.size) hbu1 (Nat.le_refl _)
   have PT := (hT1.mono hzr).keep (fun k hk _ => set6_other (g := w.heap.size) (.int .i64 nw) (.slice a1 sp.length s1) (.slice a2 fr.length s2) (.slice a3 hs_.length s3) (.slice a4 ms.length s4) (.slice a5 is.length s5) (by omega))
   have PO := hO1.keep (fun k hk _ => set6_other (g := w.heap.size) (.int .i64 nw) (.slice a1 sp.length s1) (.slice a2 fr.length s2) (.slice a3 hs_.length s3) (.slice a4 ms.length s4) (.slice a5 is.length s5) (by omega : k ≠ w.heap.size))
   have PZ : w.heap.size + 4 ≤ (set6 u1 w.heap.size (.int .i64 nw) (.slice a1 sp.length s1) (.slice a2 fr.length s2) (.slice a3 hs_.length s3) (.slice a4 ms.length s4) (.slice a5 is.length s5)).heap.size := by
    have := hb1.size
    unfold set6
    simp
    omega
   unfold set6 at P1 P3 PB PT PO PZ
   obtain ⟨W5, hW5⟩ : ∃ W, (((((u1.setCell ⟨w.heap.size, 0, none⟩ (.int .i64 nw)).setCell ⟨w.heap.size, 1, none⟩ (.slice a1 sp.length s1)).setCell ⟨w.heap.size, 2, none⟩ (.slice a2 fr.length s2)).setCell ⟨w.heap.size, 3, none⟩ (.slice a3 hs_.length s3)).setCell ⟨w.heap.size, 4, none⟩ (.slice a4 ms.length s4)).setCell ⟨w.heap.size, 5, none⟩ (.slice a5 is.length s5) = W := ⟨_, rfl⟩
   rw [hW5] at P1 P3 PB PT PO PZ
   obtain ⟨-, b0, b1, b2, b3, b4, b5⟩ := t_cells P1
   have hPO : Rd itE W5 (.slice xa (moreM ks (d1, d2) kd ct tt).length xc) (moreM ks (d1, d2) kd ct tt) := by rw [hml2]; exact PO.1.rd
   have K2 := bothx_of is (moreM ks (d1, d2) kd ct tt) m (a5, s5) (xa, xc) W5 PT.2.2.2.2.1.rd hPO (by rw [hml2]; have := hkl.out; omega) (by rw [hml2]; exact hml.out) hmH.out hpwH.out
   rw [hml2] at K2
   dsimp only at K2
   clear B1 B3 hO1 hbu1 hT1 hO hPO PO hblk hblk3
   go_wp2_with fail
   refine K2.mono ?_
   rintro e u2 ⟨⟨v2, rfl, hO2⟩, hb2⟩
   obtain ⟨a6, s6, rfl, -, -⟩ := hO2.1.rd.shape
   have B1 := (hb2.block w.heap.size (by omega)).trans P1
   have B3 := (hb2.block (w.heap.size + 3) (by omega)).trans P3
   have BB := keep_step PB (Nat.le_refl _) hb2
   replace PT := PT.below hb2
   replace hO2 : Ow itE 63 (w.heap.size + 4) u2 _ m := hO2.mono PZ
   obtain ⟨⟨f0, f1, f2, f3, f4, f5⟩, e0, e1, e2, e3, e4, e5⟩ := t_cells B1
   have P1' := set_block B1 (j := 5) (.slice a6 m.length s6)
   have P3' : (u2.setCell ⟨w.heap.size, 5, none⟩ (.slice a6 m.length s6)).heap[w.heap.size + 3]? = _ := (set_other (by omega)).trans B3
   have PB' : Below w.heap.size w (u2.setCell ⟨w.heap.size, 5, none⟩ (.slice a6 m.length s6)) := BB.setCell (p := ⟨w.heap.size, 5, none⟩) (Nat.le_refl _) _
   replace PT := PT.keep (w' := u2.setCell ⟨w.heap.size, 5, none⟩ (.slice a6 m.length s6)) (fun k hk _ => set_other (by omega))
   replace hO2 := hO2.keep (w' := u2.setCell ⟨w.heap.size, 5, none⟩ (.slice a6 m.length s6)) (fun k hk _ => set_other (by omega))
   obtain ⟨W6, hW6⟩ : ∃ W, u2.setCell ⟨w.heap.size, 5, none⟩ (.slice a6 m.length s6) = W := ⟨_, rfl⟩
   rw [hW6] at P1' P3' PB' PT hO2
   replace P1' : W6.heap[w.heap.size]? = some (.cells #[.int .i64 nw, .slice a1 sp.length s1, .slice a2 fr.length s2, .slice a3 hs_.length s3, .slice a4 ms.length s4, .slice a6 m.length s6] 27 (0, 0)) := P1'
   clear B1 B3 BB PB P1 P3 K2 b0 b1 b2 b3 b4 b5
   obtain ⟨-, b0, b1, b2, b3, b4, b5⟩ := t_cells P1'
   obtain ⟨⟨g0, g1, g2, g3, g4, g5⟩, j0, j1, j2, j3, j4, j5⟩ := t_cells P3'
   have S6 := set6_block P3' (.int .i64 nw) (.slice a1 sp.length s1) (.slice a2 fr.length s2) (.slice a3 hs_.length s3) (.slice a4 ms.length s4) (.slice a6 m.length s6)
   have B6 := set6_below (.int .i64 nw) (.slice a1 sp.length s1) (.slice a2 fr.length s2) (.slice a3 hs_.length s3) (.slice a4 ms.length s4) (.slice a6 m.length s6) (g := w.heap.size + 3) PB' (by omega)
   have T6 : TbO (w.heap.size + 4) W6 ⟨⟨nw, sp, fr, hs_, ms, m⟩, (a1, s1), (a2, s2), (a3, s3), (a4, s4), (a6, s6)⟩ := ⟨PT.1, PT.2.1, PT.2.2.1, PT.2.2.2.1, hO2⟩
   have T7 := (T6.keep (fun k hk _ => set6_other (g := w.heap.size + 3) (.int .i64 nw) (.slice a1 sp.length s1) (.slice a2 fr.length s2) (.slice a3 hs_.length s3) (.slice a4 ms.length s4) (.slice a6 m.length s6) (by omega))).mono (by omega : w.heap.size ≤ w.heap.size + 4)
   unfold set6 at S6 B6 T7
   clear T6 PT hO2 P1' P3' PB'
   go_wp2
   (try simp only [Exit.inBlock, Exit.then])
   refine bodyPost_ret (results_tb rfl _ _ (w.heap.size + 3) _ _ _ _ _ _ rfl S6) rfl ?_
   exact ⟨⟨_, rfl, rfl, T7⟩, B6⟩
end Go.Proofs.YtfpbgfmnjpamlaaGreat

