import Derived.Test.YtghhijliamnmiaaHo12
/- The law OracleRises answers true. -/
namespace Go.Proofs.Ytghhijliamnmiaa
open Go.RowKit OracleMath
set_option maxRecDepth 100000
set_option linter.unusedSimpArgs false
set_option linter.unusedVariables false

/-- Acts as elements. -/
abbrev Ac := Int × Int
def actE : El Ac := ⟨fun z => [.int .i64 z.1, .int .i64 z.2], 2, fun _ => rfl, fun x u hu => by
  simp only [List.mem_cons, List.not_mem_nil, or_false] at hu
  rcases hu with rfl | rfl <;> rfl, by decide⟩
theorem rda_at {w : World} {ao : Option Addr} {n cap : Nat} {xs : List Ac} (h : Rd actE w (.slice ao n cap) xs) {i : Nat} {x : Ac} (hx : xs[i]? = some x) : ∃ b off, ao = some ⟨b, off, none⟩ ∧ ∀ W, Below w.heap.size w W → W.cell? ⟨b, off + i * 2, none⟩ = some (.int .i64 x.1) ∧ W.cell? ⟨b, off + i * 2 + 1, none⟩ = some (.int .i64 x.2) := by
  obtain ⟨ao', cap', e, _, _, h2⟩ := h
  cases e
  obtain ⟨b, off, r1, r2⟩ := h2 i x 0 _ hx rfl
  obtain ⟨b', off', r3, r4⟩ := h2 i x 1 _ hx rfl
  cases r1.symm.trans r3
  have r2' : w.cell? ⟨b, off + i * 2, none⟩ = some (.int .i64 x.1) := r2
  have r4' : w.cell? ⟨b, off + i * 2 + 1, none⟩ = some (.int .i64 x.2) := r4
  exact ⟨b, off, r1, fun W hW => ⟨(hW.cell (p := ⟨b, off + i * 2, none⟩) (World.block_lt_of_cell? w _ r2')).trans r2', (hW.cell (p := ⟨b, off + i * 2 + 1, none⟩) (World.block_lt_of_cell? w _ r4')).trans r4'⟩⟩

set_option maxHeartbeats 8000000 in
theorem rises_law (x : Wn) (zs : List Ac) (lv : Value) (w : World) (hok : OkW x) (hL : Rd actE w lv zs) : Calls Try.prog 6 #[wv x, lv] w fun e w' => e = .returned (.bool true) ∧ Below w.heap.size w w' := by
  have HL : Hid (Rd actE w lv zs) := hL
  obtain ⟨ao, cap, rfl, -, -⟩ := hL.shape
  clear hL
  obtain ⟨n, l, s⟩ := x
  have HOK : Hid (OkW (n, l, s)) := hok
  obtain ⟨M, HM⟩ : ∃ M : Bool, Hid (M = mayB (n, l, s)) := ⟨_, rfl⟩
  have KM : Hid (∀ (x : Wn) W, OkW x → mayB x = true → Calls Try.prog 14 #[wv x] W fun e w' => e = .returned (.bool true) ∧ Below W.heap.size W w') := fun x W h1 h2 => by have h9 := rmay_of x W h1; rw [h2] at h9; exact h9
  dsimp only [wv] at *
  clear hok
  obtain ⟨t0, n0, B0⟩ := one_box w (.cells #[.int .u64 (n : Int), .int .u64 (l : Int), .bool s] 24)
  obtain ⟨-, c0, c1, c2⟩ := h_cells n0
  have kk := rmay_of (n, l, s) (w.alloc (.cells #[.int .u64 (n : Int), .int .u64 (l : Int), .bool s] 24)) HOK.out
  rw [← HM.out] at kk
  dsimp only [wv] at kk
  obtain ⟨g0, hg0⟩ : ∃ g0, g0 = w.heap.size := ⟨_, rfl⟩
  have Hg0 : Hid (w.heap.size ≤ g0) := by show _ ≤ _; omega
  rw [← hg0] at c0 c1 c2 n0
  go_enter Try.func6, Try.ntmps6
  go_wp2_with fail
  rw [← hg0]
  clear hg0 t0
  generalize w.alloc (.cells #[.int .u64 (n : Int), .int .u64 (l : Int), .bool s] 24) = W0 at *
  refine kk.mono ?_
  rintro e w1 ⟨rfl, hb1⟩
  have n1 := (hb1.block g0 (Array.getElem?_eq_some_iff.1 n0).1).trans n0
  have hbw := B0.trans (hb1.mono B0.size)
  clear kk c0 c1 c2 n0 B0 hb1
  cases M with
  | false =>
    have ka := awake_of w1
    clear KM HL HM HOK n1
    go_wp2_with fail
    refine ka.mono ?_
    rintro e w2 ⟨rfl, hb2⟩
    go_wp2
    go_ret
    exact ⟨rfl, hbw.trans (hb2.mono hbw.size)⟩
  | true =>
    have HR : Hid (Rs (n, l, s) 0 false false) := ⟨HM.out.symm, fun h => (by cases h), fun h => (by cases h)⟩
    clear HM
    go_wp2
    go_loopg [5, 6, 7, 8] zs.length (fun gg s5 s6 s7 s8 wr => ∃ (i n l : Nat) (s : Bool) (la : Nat) (so ov : Bool), i + gg = zs.length ∧ s8 = .int .i64 (i : Int) ∧ s5 = .int .u64 (la : Int) ∧ s6 = .bool so ∧ s7 = .bool ov ∧ wr.heap[g0]? = some (.cells #[.int .u64 (n : Int), .int .u64 (l : Int), .bool s] 24 (0, 0)) ∧ Below w.heap.size w wr ∧ Hid (OkW (n, l, s)) ∧ Hid (Rs (n, l, s) la so ov))
    case atStart => exact ⟨0, n, l, s, 0, false, false, by omega, rfl, rfl, rfl, rfl, n1, hbw, HOK, HR⟩
    case round =>
      clear HOK HR n1 hbw
      obtain ⟨i, n, l, s, la, so, ov, hig, rfl, rfl, rfl, rfl, hx, hb, HOK, HR⟩ := hrel
      by_cases hlt : i < zs.length
      · have hlti : (i : Int) < (zs.length : Int) := by omega
        by_cases h200 : i < 200
        · have h200i : (i : Int) < 200 := by omega
          have hzx : zs[i]? = some zs[i] := List.getElem?_eq_getElem hlt
          obtain ⟨z, hzz⟩ : ∃ z, z = zs[i] := ⟨_, rfl⟩
          rw [← hzz] at hzx
          clear hzz
          obtain ⟨zb, off, rfl, cx⟩ := rda_at HL.out hzx
          have CX : Hid (∀ W, Below w.heap.size w W → _) := cx
          obtain ⟨a0, a1⟩ := cx wr hb
          obtain ⟨zd, zn⟩ := z
          dsimp only at *
          obtain ⟨-, c0, c1, c2⟩ := h_cells hx
          clear cx hzx HL
          by_cases hd0 : zd = 0
          · subst hd0
            obtain ⟨⟨⟨r1, r2, r3⟩, ac⟩, hE⟩ : ∃ R, R = extM (n, l, s) zn := ⟨_, rfl⟩
            have HE : Hid (((r1, r2, r3), ac) = extM (n, l, s) zn) := hE
            have kE : Hid (∀ W, Calls Try.prog 7 #[.agg #[.int .u64 (n : Int), .int .u64 (l : Int), .bool s], .int .i64 zn] W fun e w' => e = .returned (.tuple #[.agg #[.int .u64 (r1 : Int), .int .u64 (r2 : Int), .bool r3], .int .i64 ac]) ∧ Below W.heap.size W w') := fun W => by have h9 := extend_of (n, l, s) zn W HOK.out; rw [← hE] at h9; exact h9
            clear hE
            go_wp2
            refine wp_region_L (fun W => W.heap[g0]? = some (.cells #[.int .u64 (n : Int), .int .u64 (l : Int), .bool s] 24 (0, 0)) ∧ Below w.heap.size w W) [] (by kernel_rfl) ?_
            have yS : (fun W => W.heap[g0]? = some (.cells #[.int .u64 (n : Int), .int .u64 (l : Int), .bool s] 24 (0, 0)) ∧ Below w.heap.size w W) wr.drew := ⟨hx, hb.drew⟩
            generalize wr.drew = wq at *
            refine wpAnyL_take 0 rfl (by kernel_rfl) (by kernel_rfl) (by kernel_rfl) (by kernel_rfl) (fun _ _ _ h => h) (wanted_none rfl) (by intro w' hS'; obtain ⟨xb, xB⟩ := hS'; obtain ⟨-, y0, y1, y2⟩ := h_cells xb; obtain ⟨v0, v1⟩ := CX.out _ xB; go_simp <;> rfl) yS ?_
            try simp only [List.getElem_toArray, List.getElem_cons_succ, List.getElem_cons_zero, Act.put, List.setIfInBounds_toArray, List.set_cons_zero, List.set_cons_succ]
            refine wpAnyL_take 1 rfl (by kernel_rfl) (by kernel_rfl) (by kernel_rfl) (by kernel_rfl) (fun _ _ _ h => h) (wanted_none rfl) (by intro w' hS'; obtain ⟨xb, xB⟩ := hS'; obtain ⟨-, y0, y1, y2⟩ := h_cells xb; obtain ⟨v0, v1⟩ := CX.out _ xB; go_simp <;> rfl) yS ?_
            try simp only [List.getElem_toArray, List.getElem_cons_succ, List.getElem_cons_zero, Act.put, List.setIfInBounds_toArray, List.set_cons_zero, List.set_cons_succ]
            refine wpAnyL_take 2 rfl (by kernel_rfl) (by kernel_rfl) (by kernel_rfl) (by kernel_rfl) (fun _ _ _ h => h) (wanted_none rfl) (by intro w' hS'; obtain ⟨xb, xB⟩ := hS'; obtain ⟨-, y0, y1, y2⟩ := h_cells xb; obtain ⟨v0, v1⟩ := CX.out _ xB; go_simp <;> rfl) yS ?_
            try simp only [List.getElem_toArray, List.getElem_cons_succ, List.getElem_cons_zero, Act.put, List.setIfInBounds_toArray, List.set_cons_zero, List.set_cons_succ]
            refine wpAnyL_take 3 rfl (by kernel_rfl) (by kernel_rfl) (by kernel_rfl) (by kernel_rfl) (fun _ _ _ h => h) (wanted_none rfl) (by intro w' hS'; obtain ⟨xb, xB⟩ := hS'; obtain ⟨-, y0, y1, y2⟩ := h_cells xb; obtain ⟨v0, v1⟩ := CX.out _ xB; go_simp <;> rfl) yS ?_
            try simp only [List.getElem_toArray, List.getElem_cons_succ, List.getElem_cons_zero, Act.put, List.setIfInBounds_toArray, List.set_cons_zero, List.set_cons_succ]
            refine wpAnyL_take 4 rfl (by kernel_rfl) (by kernel_rfl) (by kernel_rfl) (by kernel_rfl) (fun _ _ _ h => h) (wanted_none rfl) (by intro w' hS'; obtain ⟨xb, xB⟩ := hS'; obtain ⟨-, y0, y1, y2⟩ := h_cells xb; obtain ⟨v0, v1⟩ := CX.out _ xB; go_simp <;> rfl) yS ?_
            try simp only [List.getElem_toArray, List.getElem_cons_succ, List.getElem_cons_zero, Act.put, List.setIfInBounds_toArray, List.set_cons_zero, List.set_cons_succ]
            refine wpAnyL_take 5 rfl (by kernel_rfl) (by kernel_rfl) (by kernel_rfl) (by kernel_rfl) (fun _ _ _ h => h) (wanted_none rfl) (by intro w' hS'; obtain ⟨xb, xB⟩ := hS'; obtain ⟨-, y0, y1, y2⟩ := h_cells xb; obtain ⟨v0, v1⟩ := CX.out _ xB; go_simp <;> rfl) yS ?_
            try simp only [List.getElem_toArray, List.getElem_cons_succ, List.getElem_cons_zero, Act.put, List.setIfInBounds_toArray, List.set_cons_zero, List.set_cons_succ]
            refine wpAnyL_two 6 10 (by kernel_rfl) rfl rfl (by kernel_rfl) (by kernel_rfl) ?_ ?_
            · intro K' hK'
              go_simp
              go_at_call 7
              refine (kE.out _).mono ?_
              rintro e Wc ⟨rfl, hq⟩
              have hSc : (fun W => W.heap[g0]? = some (.cells #[.int .u64 (n : Int), .int .u64 (l : Int), .bool s] 24 (0, 0)) ∧ Below w.heap.size w W) Wc := ⟨(hq.block g0 (Array.getElem?_eq_some_iff.1 yS.1).1).trans yS.1, yS.2.trans (hq.mono yS.2.size)⟩
              refine hK'.out _ _ (.inr hSc) ?_
              clear hK' K'
              try simp only [List.getElem_toArray, List.getElem_cons_succ, List.getElem_cons_zero, Act.put, List.setIfInBounds_toArray, List.set_cons_zero, List.set_cons_succ]
              refine wpAnyL_take 7 rfl (by kernel_rfl) (by kernel_rfl) (by kernel_rfl) (by kernel_rfl) (fun _ _ _ h => h) (wanted_none rfl) (by intro w' hS'; obtain ⟨xb, xB⟩ := hS'; obtain ⟨-, y0, y1, y2⟩ := h_cells xb; obtain ⟨v0, v1⟩ := CX.out _ xB; go_simp <;> rfl) hSc ?_
              try simp only [List.getElem_toArray, List.getElem_cons_succ, List.getElem_cons_zero, Act.put, List.setIfInBounds_toArray, List.set_cons_zero, List.set_cons_succ]
              refine wpAnyL_take 8 rfl (by kernel_rfl) (by kernel_rfl) (by kernel_rfl) (by kernel_rfl) (fun _ _ _ h => h) (wanted_none rfl) (by intro w' hS'; obtain ⟨xb, xB⟩ := hS'; obtain ⟨-, y0, y1, y2⟩ := h_cells xb; obtain ⟨v0, v1⟩ := CX.out _ xB; go_simp <;> rfl) hSc ?_
              try simp only [List.getElem_toArray, List.getElem_cons_succ, List.getElem_cons_zero, Act.put, List.setIfInBounds_toArray, List.set_cons_zero, List.set_cons_succ]
              refine wpAnyL_take 9 rfl (by kernel_rfl) (by kernel_rfl) (by kernel_rfl) (by kernel_rfl) (fun _ _ _ h => h) (wanted_none rfl) (by intro w' hS'; obtain ⟨xb, xB⟩ := hS'; obtain ⟨-, y0, y1, y2⟩ := h_cells xb; obtain ⟨v0, v1⟩ := CX.out _ xB; go_simp <;> rfl) hSc ?_
              try simp only [List.getElem_toArray, List.getElem_cons_succ, List.getElem_cons_zero, Act.put, List.setIfInBounds_toArray, List.set_cons_zero, List.set_cons_succ]
              refine wpAnyL_one 10 (by kernel_rfl) rfl (wanted_none rfl) ?_
              intro K' hK'
              go_simp
              have hSa : (fun W => W.heap[g0]? = some (.cells #[.int .u64 (n : Int), .int .u64 (l : Int), .bool s] 24 (0, 0)) ∧ Below w.heap.size w W) (Wc.alloc (.cells #[.int .u64 0, .int .u64 0, .bool false] 24)) := ⟨(heap_alloc_old _ _ ((Array.getElem?_eq_some_iff.1 hSc.1).1)).trans hSc.1, hSc.2.alloc hSc.2.size _⟩
              have qc : (Wc.alloc (.cells #[.int .u64 0, .int .u64 0, .bool false] 24)).heap[Wc.heap.size]? = _ := heap_alloc_new _ _
              have hbge : w.heap.size ≤ Wc.heap.size := hSc.2.size
              have hgl : g0 < Wc.heap.size := (Array.getElem?_eq_some_iff.1 hSc.1).1
              refine hK'.out _ _ (.inr hSa) ?_
              clear hK' K'
              try simp only [List.getElem_toArray, List.getElem_cons_succ, List.getElem_cons_zero, Act.put, List.setIfInBounds_toArray, List.set_cons_zero, List.set_cons_succ]
              generalize hbb : Wc.heap.size = bb at *
              generalize Wc.alloc (.cells #[.int .u64 0, .int .u64 0, .bool false] 24) = Wd at *
              obtain ⟨⟨u0, u1, u2⟩, u3, u4, u5⟩ := h_cells qc
              have qs := h_set qc (.int .u64 (r1 : Int)) (.int .u64 (r2 : Int)) (.bool r3)
              have hSs : (fun W => W.heap[g0]? = some (.cells #[.int .u64 (n : Int), .int .u64 (l : Int), .bool s] 24 (0, 0)) ∧ Below w.heap.size w W) (((Wd.setCell ⟨bb, 0, none⟩ (.int .u64 (r1 : Int))).setCell ⟨bb, 1, none⟩ (.int .u64 (r2 : Int))).setCell ⟨bb, 2, none⟩ (.bool r3)) := ⟨set_far (g := bb) (i := 2) (set_far (g := bb) (i := 1) (set_far (g := bb) (i := 0) hSa.1 (Nat.ne_of_gt hgl) _) (Nat.ne_of_gt hgl) _) (Nat.ne_of_gt hgl) _, h_below (g := bb) (.int .u64 (r1 : Int)) (.int .u64 (r2 : Int)) (.bool r3) hSa.2 hbge⟩
              refine wpAnyL_one 11 (by kernel_rfl) rfl (wanted_none rfl) ?_
              intro K' hK'
              go_simp
              refine hK'.out _ _ (.inr hSs) ?_
              clear hK' K'
              try simp only [List.getElem_toArray, List.getElem_cons_succ, List.getElem_cons_zero, Act.put, List.setIfInBounds_toArray, List.set_cons_zero, List.set_cons_succ]
              refine wpAnyL_take 12 rfl (by kernel_rfl) (by kernel_rfl) (by kernel_rfl) (by kernel_rfl) (fun _ _ _ h => h) (wanted_none rfl) (by intro w' hS'; obtain ⟨xb, xB⟩ := hS'; obtain ⟨-, y0, y1, y2⟩ := h_cells xb; obtain ⟨v0, v1⟩ := CX.out _ xB; go_simp <;> rfl) hSs ?_
              try simp only [List.getElem_toArray, List.getElem_cons_succ, List.getElem_cons_zero, Act.put, List.setIfInBounds_toArray, List.set_cons_zero, List.set_cons_succ]
              refine wpAnyL_done (by kernel_rfl) (NoPanic.normal ?_) _
              generalize ((Wd.setCell ⟨bb, 0, none⟩ (.int .u64 (r1 : Int))).setCell ⟨bb, 1, none⟩ (.int .u64 (r2 : Int))).setCell ⟨bb, 2, none⟩ (.bool r3) = We at *
              obtain ⟨hxe, hbe⟩ := hSs
              clear yS hSa hSc qc u0 u1 u2 u3 u4 u5 hx hb c0 c1 c2 a0 a1 hbge hgl hbb
              obtain ⟨-, b0, b1, b2⟩ := h_cells qs
              by_cases hac : ac = 0
              · subst hac
                have HRE : Hid (Rs (r1, r2, r3) la so ov) := by have h9 := HR.out.ext HOK.out (n := zn) (by rw [← HE.out]); rw [← HE.out] at h9; exact h9
                have HOE : Hid (OkW (r1, r2, r3)) := by have h9 := ok_ext (n := zn) HOK.out; rw [← HE.out] at h9; exact h9
                have hxs := h_set hxe (.int .u64 (r1 : Int)) (.int .u64 (r2 : Int)) (.bool r3)
                have hbs := h_below (g := g0) (.int .u64 (r1 : Int)) (.int .u64 (r2 : Int)) (.bool r3) hbe Hg0.out
                obtain ⟨⟨f0, f1, f2⟩, p0, p1, p2⟩ := h_cells hxe
                obtain ⟨W9, hW9⟩ : ∃ W9, (((We.setCell ⟨g0, 0, none⟩ (.int .u64 (r1 : Int))).setCell ⟨g0, 1, none⟩ (.int .u64 (r2 : Int))).setCell ⟨g0, 2, none⟩ (.bool r3)) = W9 := ⟨_, rfl⟩
                rw [hW9] at hxs hbs
                clear HE HR HOK kE CX
                have km := KM.out (r1, r2, r3) W9 HOE.out HRE.out.may
                dsimp only [wv] at km
                obtain ⟨-, m0, m1, m2⟩ := h_cells hxs
                go_wp2_with fail
                refine km.mono ?_
                rintro e V1 ⟨rfl, hq⟩
                have hxV := (hq.block g0 (Array.getElem?_eq_some_iff.1 hxs).1).trans hxs
                have hbV := hbs.trans (hq.mono hbs.size)
                clear km m0 m1 m2 hq
                go_wp2
                go_roundg (gk - 1)
                case measure => omega
                case rel => exact ⟨i + 1, r1, r2, r3, la, so, ov, by omega, by go_num, rfl, rfl, rfl, hxV, hbV, HOE, HRE⟩
              · have eac : (ac == 0) = false := by simpa using hac
                clear HE kE CX hac
                have km := KM.out (n, l, s) We HOK.out HR.out.may
                dsimp only [wv] at km
                obtain ⟨-, m0, m1, m2⟩ := h_cells hxe
                go_wp2_with fail
                refine km.mono ?_
                rintro e V1 ⟨rfl, hq⟩
                have hxV := (hq.block g0 (Array.getElem?_eq_some_iff.1 hxe).1).trans hxe
                have hbV := hbe.trans (hq.mono hbe.size)
                clear km m0 m1 m2 hq
                go_wp2
                go_roundg (gk - 1)
                case measure => omega
                case rel => exact ⟨i + 1, n, l, s, la, so, ov, by omega, by go_num, rfl, rfl, rfl, hxV, hbV, HOK, HR⟩
            · intro K' hK'
              go_simp
              have hSa : (fun W => W.heap[g0]? = some (.cells #[.int .u64 (n : Int), .int .u64 (l : Int), .bool s] 24 (0, 0)) ∧ Below w.heap.size w W) (wq.alloc (.cells #[.int .u64 0, .int .u64 0, .bool false] 24)) := ⟨(heap_alloc_old _ _ ((Array.getElem?_eq_some_iff.1 yS.1).1)).trans yS.1, yS.2.alloc yS.2.size _⟩
              have qb : (wq.alloc (.cells #[.int .u64 0, .int .u64 0, .bool false] 24)).heap[wq.heap.size]? = _ := heap_alloc_new _ _
              have hbge : w.heap.size ≤ wq.heap.size := yS.2.size
              have hgl : g0 < wq.heap.size := (Array.getElem?_eq_some_iff.1 yS.1).1
              refine hK'.out _ _ (.inr hSa) ?_
              clear hK' K'
              try simp only [List.getElem_toArray, List.getElem_cons_succ, List.getElem_cons_zero, Act.put, List.setIfInBounds_toArray, List.set_cons_zero, List.set_cons_succ]
              generalize hbb : wq.heap.size = bb at *
              generalize wq.alloc (.cells #[.int .u64 0, .int .u64 0, .bool false] 24) = Wa at *
              refine wpAnyL_one 6 (by kernel_rfl) rfl (wanted_none rfl) ?_
              intro K' hK'
              go_simp
              go_at_call 7
              refine (kE.out _).mono ?_
              rintro e Wc ⟨rfl, hq⟩
              have hSc : (fun W => W.heap[g0]? = some (.cells #[.int .u64 (n : Int), .int .u64 (l : Int), .bool s] 24 (0, 0)) ∧ Below w.heap.size w W) Wc := ⟨(hq.block g0 (Array.getElem?_eq_some_iff.1 hSa.1).1).trans hSa.1, hSa.2.trans (hq.mono hSa.2.size)⟩
              have qc := (hq.block bb (Array.getElem?_eq_some_iff.1 qb).1).trans qb
              refine hK'.out _ _ (.inr hSc) ?_
              clear hK' K'
              try simp only [List.getElem_toArray, List.getElem_cons_succ, List.getElem_cons_zero, Act.put, List.setIfInBounds_toArray, List.set_cons_zero, List.set_cons_succ]
              refine wpAnyL_take 7 rfl (by kernel_rfl) (by kernel_rfl) (by kernel_rfl) (by kernel_rfl) (fun _ _ _ h => h) (wanted_none rfl) (by intro w' hS'; obtain ⟨xb, xB⟩ := hS'; obtain ⟨-, y0, y1, y2⟩ := h_cells xb; obtain ⟨v0, v1⟩ := CX.out _ xB; go_simp <;> rfl) hSc ?_
              try simp only [List.getElem_toArray, List.getElem_cons_succ, List.getElem_cons_zero, Act.put, List.setIfInBounds_toArray, List.set_cons_zero, List.set_cons_succ]
              refine wpAnyL_take 8 rfl (by kernel_rfl) (by kernel_rfl) (by kernel_rfl) (by kernel_rfl) (fun _ _ _ h => h) (wanted_none rfl) (by intro w' hS'; obtain ⟨xb, xB⟩ := hS'; obtain ⟨-, y0, y1, y2⟩ := h_cells xb; obtain ⟨v0, v1⟩ := CX.out _ xB; go_simp <;> rfl) hSc ?_
              try simp only [List.getElem_toArray, List.getElem_cons_succ, List.getElem_cons_zero, Act.put, List.setIfInBounds_toArray, List.set_cons_zero, List.set_cons_succ]
              refine wpAnyL_take 9 rfl (by kernel_rfl) (by kernel_rfl) (by kernel_rfl) (by kernel_rfl) (fun _ _ _ h => h) (wanted_none rfl) (by intro w' hS'; obtain ⟨xb, xB⟩ := hS'; obtain ⟨-, y0, y1, y2⟩ := h_cells xb; obtain ⟨v0, v1⟩ := CX.out _ xB; go_simp <;> rfl) hSc ?_
              try simp only [List.getElem_toArray, List.getElem_cons_succ, List.getElem_cons_zero, Act.put, List.setIfInBounds_toArray, List.set_cons_zero, List.set_cons_succ]
              obtain ⟨⟨u0, u1, u2⟩, u3, u4, u5⟩ := h_cells qc
              have qs := h_set qc (.int .u64 (r1 : Int)) (.int .u64 (r2 : Int)) (.bool r3)
              have hSs : (fun W => W.heap[g0]? = some (.cells #[.int .u64 (n : Int), .int .u64 (l : Int), .bool s] 24 (0, 0)) ∧ Below w.heap.size w W) (((Wc.setCell ⟨bb, 0, none⟩ (.int .u64 (r1 : Int))).setCell ⟨bb, 1, none⟩ (.int .u64 (r2 : Int))).setCell ⟨bb, 2, none⟩ (.bool r3)) := ⟨set_far (g := bb) (i := 2) (set_far (g := bb) (i := 1) (set_far (g := bb) (i := 0) hSc.1 (Nat.ne_of_gt hgl) _) (Nat.ne_of_gt hgl) _) (Nat.ne_of_gt hgl) _, h_below (g := bb) (.int .u64 (r1 : Int)) (.int .u64 (r2 : Int)) (.bool r3) hSc.2 hbge⟩
              refine wpAnyL_one 11 (by kernel_rfl) rfl (wanted_none rfl) ?_
              intro K' hK'
              go_simp
              refine hK'.out _ _ (.inr hSs) ?_
              clear hK' K'
              try simp only [List.getElem_toArray, List.getElem_cons_succ, List.getElem_cons_zero, Act.put, List.setIfInBounds_toArray, List.set_cons_zero, List.set_cons_succ]
              refine wpAnyL_take 12 rfl (by kernel_rfl) (by kernel_rfl) (by kernel_rfl) (by kernel_rfl) (fun _ _ _ h => h) (wanted_none rfl) (by intro w' hS'; obtain ⟨xb, xB⟩ := hS'; obtain ⟨-, y0, y1, y2⟩ := h_cells xb; obtain ⟨v0, v1⟩ := CX.out _ xB; go_simp <;> rfl) hSs ?_
              try simp only [List.getElem_toArray, List.getElem_cons_succ, List.getElem_cons_zero, Act.put, List.setIfInBounds_toArray, List.set_cons_zero, List.set_cons_succ]
              refine wpAnyL_done (by kernel_rfl) (NoPanic.normal ?_) _
              generalize ((Wc.setCell ⟨bb, 0, none⟩ (.int .u64 (r1 : Int))).setCell ⟨bb, 1, none⟩ (.int .u64 (r2 : Int))).setCell ⟨bb, 2, none⟩ (.bool r3) = We at *
              obtain ⟨hxe, hbe⟩ := hSs
              clear yS hSa qb hSc qc u0 u1 u2 u3 u4 u5 hx hb c0 c1 c2 a0 a1 hbge hgl hbb
              obtain ⟨-, b0, b1, b2⟩ := h_cells qs
              by_cases hac : ac = 0
              · subst hac
                have HRE : Hid (Rs (r1, r2, r3) la so ov) := by have h9 := HR.out.ext HOK.out (n := zn) (by rw [← HE.out]); rw [← HE.out] at h9; exact h9
                have HOE : Hid (OkW (r1, r2, r3)) := by have h9 := ok_ext (n := zn) HOK.out; rw [← HE.out] at h9; exact h9
                have hxs := h_set hxe (.int .u64 (r1 : Int)) (.int .u64 (r2 : Int)) (.bool r3)
                have hbs := h_below (g := g0) (.int .u64 (r1 : Int)) (.int .u64 (r2 : Int)) (.bool r3) hbe Hg0.out
                obtain ⟨⟨f0, f1, f2⟩, p0, p1, p2⟩ := h_cells hxe
                obtain ⟨W9, hW9⟩ : ∃ W9, (((We.setCell ⟨g0, 0, none⟩ (.int .u64 (r1 : Int))).setCell ⟨g0, 1, none⟩ (.int .u64 (r2 : Int))).setCell ⟨g0, 2, none⟩ (.bool r3)) = W9 := ⟨_, rfl⟩
                rw [hW9] at hxs hbs
                clear HE HR HOK kE CX
                have km := KM.out (r1, r2, r3) W9 HOE.out HRE.out.may
                dsimp only [wv] at km
                obtain ⟨-, m0, m1, m2⟩ := h_cells hxs
                go_wp2_with fail
                refine km.mono ?_
                rintro e V1 ⟨rfl, hq⟩
                have hxV := (hq.block g0 (Array.getElem?_eq_some_iff.1 hxs).1).trans hxs
                have hbV := hbs.trans (hq.mono hbs.size)
                clear km m0 m1 m2 hq
                go_wp2
                go_roundg (gk - 1)
                case measure => omega
                case rel => exact ⟨i + 1, r1, r2, r3, la, so, ov, by omega, by go_num, rfl, rfl, rfl, hxV, hbV, HOE, HRE⟩
              · have eac : (ac == 0) = false := by simpa using hac
                clear HE kE CX hac
                have km := KM.out (n, l, s) We HOK.out HR.out.may
                dsimp only [wv] at km
                obtain ⟨-, m0, m1, m2⟩ := h_cells hxe
                go_wp2_with fail
                refine km.mono ?_
                rintro e V1 ⟨rfl, hq⟩
                have hxV := (hq.block g0 (Array.getElem?_eq_some_iff.1 hxe).1).trans hxe
                have hbV := hbe.trans (hq.mono hbe.size)
                clear km m0 m1 m2 hq
                go_wp2
                go_roundg (gk - 1)
                case measure => omega
                case rel => exact ⟨i + 1, n, l, s, la, so, ov, by omega, by go_num, rfl, rfl, rfl, hxV, hbV, HOK, HR⟩
          · have ed0 : (zd == 0) = false := by simpa using hd0
            by_cases hd1 : zd = 1
            · subst hd1
              obtain ⟨⟨⟨r1, r2, r3⟩, ac⟩, hE⟩ : ∃ R, R = recM (n, l, s) := ⟨_, rfl⟩
              obtain ⟨hr1, hr2⟩ := HR.out.recov HOK.out
              have kE := recover_of (n, l, s) wr HOK.out
              have HOE : Hid (OkW (r1, r2, r3)) := by have h9 := ok_rec HOK.out; rw [← hE] at h9; exact h9
              rw [← hE] at kE hr1 hr2
              have HRE : Hid (Rs (r1, r2, r3) la so ov) := hr2
              dsimp only at hr1
              subst hr1
              dsimp only [wv] at kE
              clear hE hr2 HOK HR CX
              go_wp2_with fail
              refine kE.mono ?_
              rintro e Wc ⟨rfl, hq⟩
              have hxc := (hq.block g0 (Array.getElem?_eq_some_iff.1 hx).1).trans hx
              have hbc := hb.trans (hq.mono hb.size)
              obtain ⟨tt, nn, BB⟩ := one_box Wc (.cells #[.int .u64 (r1 : Int), .int .u64 (r2 : Int), .bool r3] 24)
              have hxd := (BB.block g0 (Array.getElem?_eq_some_iff.1 hxc).1).trans hxc
              have hbd := hbc.trans (BB.mono hbc.size)
              clear kE hq hxc hbc hx hb c0 c1 c2 a0 a1 tt BB
              obtain ⟨Wd, hWd⟩ : ∃ Wd, Wc.alloc (.cells #[.int .u64 (r1 : Int), .int .u64 (r2 : Int), .bool r3] 24) = Wd := ⟨_, rfl⟩
              rw [hWd] at nn hxd hbd
              obtain ⟨-, b0, b1, b2⟩ := h_cells nn
              have hxs := h_set hxd (.int .u64 (r1 : Int)) (.int .u64 (r2 : Int)) (.bool r3)
              have hbs := h_below (g := g0) (.int .u64 (r1 : Int)) (.int .u64 (r2 : Int)) (.bool r3) hbd Hg0.out
              obtain ⟨⟨f0, f1, f2⟩, p0, p1, p2⟩ := h_cells hxd
              obtain ⟨W9, hW9⟩ : ∃ W9, (((Wd.setCell ⟨g0, 0, none⟩ (.int .u64 (r1 : Int))).setCell ⟨g0, 1, none⟩ (.int .u64 (r2 : Int))).setCell ⟨g0, 2, none⟩ (.bool r3)) = W9 := ⟨_, rfl⟩
              rw [hW9] at hxs hbs
              have km := KM.out (r1, r2, r3) W9 HOE.out HRE.out.may
              dsimp only [wv] at km
              obtain ⟨-, m0, m1, m2⟩ := h_cells hxs
              clear nn hxd hbd
              go_wp2_with fail
              refine km.mono ?_
              rintro e V1 ⟨rfl, hq⟩
              have hxV := (hq.block g0 (Array.getElem?_eq_some_iff.1 hxs).1).trans hxs
              have hbV := hbs.trans (hq.mono hbs.size)
              clear km m0 m1 m2 hq hWd hW9 b0 b1 b2 f0 f1 f2 p0 p1 p2 hxs hbs
              go_wp2
              go_roundg (gk - 1)
              case measure => omega
              case rel => exact ⟨i + 1, r1, r2, r3, la, so, ov, by omega, by go_num, rfl, rfl, rfl, hxV, hbV, HOE, HRE⟩
            · have ed1 : (zd == 1) = false := by simpa using hd1
              have kE := take_of (n, l, s) wr HOK.out
              have HOE : Hid (OkW (takM (n, l, s)).1) := ok_tak HOK.out
              obtain ⟨⟨⟨r1, r2, r3⟩, rt, ac⟩, hE⟩ : ∃ R, R = takM (n, l, s) := ⟨_, rfl⟩
              have HT := HR.out.take HOK.out
              rw [← hE] at kE HT HOE
              dsimp only [wv] at kE HT
              clear hE CX
              go_wp2_with fail
              refine kE.mono ?_
              rintro e Wc ⟨rfl, hq⟩
              have hxc := (hq.block g0 (Array.getElem?_eq_some_iff.1 hx).1).trans hx
              have hbc := hb.trans (hq.mono hb.size)
              obtain ⟨tt, nn, BB⟩ := one_box Wc (.cells #[.int .u64 (r1 : Int), .int .u64 (r2 : Int), .bool r3] 24)
              have hxd := (BB.block g0 (Array.getElem?_eq_some_iff.1 hxc).1).trans hxc
              have hbd := hbc.trans (BB.mono hbc.size)
              clear kE hq hxc hbc hx hb c0 c1 c2 a0 a1 tt BB
              obtain ⟨Wd, hWd⟩ : ∃ Wd, Wc.alloc (.cells #[.int .u64 (r1 : Int), .int .u64 (r2 : Int), .bool r3] 24) = Wd := ⟨_, rfl⟩
              rw [hWd] at nn hxd hbd
              obtain ⟨-, b0, b1, b2⟩ := h_cells nn
              clear nn
              rcases HT with ⟨h1, h2, h3, h4, h5, h6⟩ | ⟨h1, h2, h3, h4⟩ | ⟨h1, h2, h3⟩
              · subst h1 h3
                have HRE : Hid (Rs (r1, r2, r3) rt true false) := h6
                have e4 : ((rt : Int) == 0) = false := by simp [h4]
                have H5 : Hid (so = true → la < rt) := h5
                clear h2 h4 h5 h6 HR HOK
                have hxs := h_set hxd (.int .u64 (r1 : Int)) (.int .u64 (r2 : Int)) (.bool r3)
                have hbs := h_below (g := g0) (.int .u64 (r1 : Int)) (.int .u64 (r2 : Int)) (.bool r3) hbd Hg0.out
                obtain ⟨⟨f0, f1, f2⟩, p0, p1, p2⟩ := h_cells hxd
                obtain ⟨W9, hW9⟩ : ∃ W9, (((Wd.setCell ⟨g0, 0, none⟩ (.int .u64 (r1 : Int))).setCell ⟨g0, 1, none⟩ (.int .u64 (r2 : Int))).setCell ⟨g0, 2, none⟩ (.bool r3)) = W9 := ⟨_, rfl⟩
                rw [hW9] at hxs hbs
                have km := KM.out (r1, r2, r3) W9 HOE.out HRE.out.may
                dsimp only [wv] at km
                obtain ⟨-, m0, m1, m2⟩ := h_cells hxs
                clear hxd hbd
                cases so with
                | false =>
                  clear H5
                  go_wp2_with fail
                  refine km.mono ?_
                  rintro e V1 ⟨rfl, hq⟩
                  have hxV := (hq.block g0 (Array.getElem?_eq_some_iff.1 hxs).1).trans hxs
                  have hbV := hbs.trans (hq.mono hbs.size)
                  clear km m0 m1 m2 hq hWd hW9 b0 b1 b2 f0 f1 f2 p0 p1 p2 hxs hbs
                  go_wp2
                  go_roundg (gk - 1)
                  case measure => omega
                  case rel => exact ⟨i + 1, r1, r2, r3, rt, true, false, by omega, by go_num, rfl, rfl, rfl, hxV, hbV, HOE, HRE⟩
                | true =>
                  have e5 : decide ((rt : Int) ≤ (la : Int)) = false := by have := H5.out rfl; simp; omega
                  have e6 : decide (rt ≤ la) = false := by have := H5.out rfl; simp; omega
                  clear H5
                  go_wp2_with fail
                  refine km.mono ?_
                  rintro e V1 ⟨rfl, hq⟩
                  have hxV := (hq.block g0 (Array.getElem?_eq_some_iff.1 hxs).1).trans hxs
                  have hbV := hbs.trans (hq.mono hbs.size)
                  clear km m0 m1 m2 hq hWd hW9 b0 b1 b2 f0 f1 f2 p0 p1 p2 hxs hbs
                  go_wp2
                  go_roundg (gk - 1)
                  case measure => omega
                  case rel => exact ⟨i + 1, r1, r2, r3, rt, true, false, by omega, by go_num, rfl, rfl, rfl, hxV, hbV, HOE, HRE⟩
              · subst h1 h2 h4
                clear h3 HOE b0 b1 b2
                go_wp2
                go_roundg (gk - 1)
                case measure => omega
                case rel => exact ⟨i + 1, n, l, s, la, so, false, by omega, by go_num, rfl, rfl, rfl, hxd, hbd, HOK, HR⟩
              · subst h1 h2
                have HRE : Hid (Rs (n, l, s) la so true) := h3
                clear h3 HOE b0 b1 b2 HR
                cases ov with
                | false =>
                  go_wp2
                  go_roundg (gk - 1)
                  case measure => omega
                  case rel => exact ⟨i + 1, n, l, s, la, so, true, by omega, by go_num, rfl, rfl, rfl, hxd, hbd, HOK, HRE⟩
                | true =>
                  go_wp2
                  go_roundg (gk - 1)
                  case measure => omega
                  case rel => exact ⟨i + 1, n, l, s, la, so, true, by omega, by go_num, rfl, rfl, rfl, hxd, hbd, HOK, HRE⟩
        · have h200i : ¬ (i : Int) < 200 := by omega
          have ka := awake_of wr
          clear KM HL HOK HR hx
          go_wp2_with fail
          refine ka.mono ?_
          rintro e w2 ⟨rfl, hb2⟩
          go_wp2
          go_ret
          exact ⟨rfl, hb.trans (hb2.mono hb.size)⟩
      · have hlti : ¬ (i : Int) < (zs.length : Int) := by omega
        have ka := awake_of wr
        clear KM HL HOK HR hx
        go_wp2_with fail
        refine ka.mono ?_
        rintro e w2 ⟨rfl, hb2⟩
        go_wp2
        go_ret
        exact ⟨rfl, hb.trans (hb2.mono hb.size)⟩
end Go.Proofs.Ytghhijliamnmiaa

