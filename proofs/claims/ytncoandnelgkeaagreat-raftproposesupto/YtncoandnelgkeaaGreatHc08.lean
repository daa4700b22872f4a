import Derived.Test.YtncoandnelgkeaaGreatHc06
/- The contracts of the document's SameEntry, SameEntries, Same, where both are alike. -/
namespace Go.Proofs.YtncoandnelgkeaaGreat
open Go.RowKit QuorumMath RlogMath
set_option maxRecDepth 100000
set_option linter.unusedSimpArgs false
set_option linter.unusedVariables false

/-- Bytes as a text. -/
def str (l : List Nat) : ByteArray := ⟨(l.map UInt8.ofNat).toArray⟩
theorem str_nil (w : World) : (convert 23 9 (.slice none 0 0)).run Tryz.prog w = .ok (.string (str [])) w := by kernel_rfl
theorem str_of {w : World} {v : Value} {l : List Nat} (h : Rd byteE w v l) (hl : ∀ c ∈ l, c < 256) : (convert 23 9 v).run Tryz.prog w = .ok (.string (str l)) w := by
  obtain ⟨ao, cap, e, h2, h3, -⟩ := id h
  cases ao with
  | none =>
    have := h3 rfl
    subst this
    obtain rfl : l = [] := List.eq_nil_of_length_eq_zero (by omega)
    rw [e]
    exact str_nil w
  | some ad =>
    subst e
    have e := run_convert_bytes_back (P := Tryz.prog) w 23 9 5 ad cap (l.map UInt8.ofNat) Tryz.underlying23 Tryz.underlying5 Tryz.underlying9 ?_
    · rw [List.length_map] at e
      exact e
    · intro j hj
      rw [List.length_map] at hj
      obtain ⟨b, off, e1, c⟩ := rdb_at h (List.getElem?_eq_getElem hj)
      obtain rfl := Option.some.inj e1
      have hc := hl l[j] (List.getElem_mem hj)
      rw [Addr.add_lit, c w (Below.refl _ _)]
      simp only [List.getElem_map, UInt8.toNat_ofNat']
      rw [Nat.mod_eq_of_lt (by omega)]

set_option maxHeartbeats 2000000 in
theorem sameE_of (m : Me) (s u : Sl) (w : World) (hS : DataV w (m, s)) (hU : DataV w (m, u)) (hc : ∀ c ∈ m.data, c < 256) : Calls Tryz.prog 45 #[ev (m, s), ev (m, u)] w fun e w' => e = .returned (.bool true) ∧ Below w.heap.size w w' := by
  have hl1 := hS.len
  have hl2 := hU.len
  obtain ⟨ix, tm, kd, dt⟩ := m
  obtain ⟨sa, sn, sc⟩ := s
  obtain ⟨ua, un, uc⟩ := u
  dsimp only [ev] at *
  subst hl1
  subst hl2
  have hS' : Rd byteE w (.slice sa dt.length sc) dt := hS
  have hU' : Rd byteE w (.slice ua dt.length uc) dt := hU
  have hb : Below w.heap.size w ((w.alloc (.cells #[.int .u64 (ix : Int), .int .u64 (tm : Int), .int .i64 kd, .slice sa dt.length sc] 25)).alloc (.cells #[.int .u64 (ix : Int), .int .u64 (tm : Int), .int .i64 kd, .slice ua dt.length uc] 25)) := ((Below.refl _ _).alloc (Nat.le_refl _) _).alloc (by simp) _
  have e1 := str_of (hS'.below hb) hc
  have e2 := str_of (hU'.below hb) hc
  generalize str dt = S at *
  clear hS hU hS' hU' hc
  go_enter Tryz.func45, Tryz.ntmps45
  go_wp2
  go_ret
  exact ⟨by simp, hb⟩

theorem keep_on {n : Nat} {w w1 w2 : World} (h : Below n w w1) (h2 : Below w1.heap.size w1 w2) (hn : n ≤ w.heap.size := by exact Nat.le_refl _) : Below n w w2 := h.trans (h2.mono (Nat.le_trans hn h.size))
set_option maxHeartbeats 2000000 in
theorem sameEs_of (zs ys : List Ez) (zv yv : Value) (w : World) (hZ : EntsV w zv zs) (hY : EntsV w yv ys) (he : mes zs = mes ys) (hok : ∀ z ∈ zs, EzOk z) (hlen : zs.length ≤ 1000000000000) : Calls Tryz.prog 88 #[zv, yv] w fun e w' => e = .returned (.bool true) ∧ Below w.heap.size w w' := by
  have hl : ys.length = zs.length := by have := congrArg List.length he; simpa using this.symm
  obtain ⟨za, zc, rfl, -, -⟩ := hZ.1.shape
  obtain ⟨ya, yc, rfl, -, -⟩ := hY.1.shape
  have HE : Hid (mes zs = mes ys) := he
  have HL : Hid (ys.length = zs.length) := hl
  have HZ : Hid (EntsV w (.slice za zs.length zc) zs) := hZ
  have HY : Hid (EntsV w (.slice ya zs.length yc) ys) := by show EntsV _ _ _; rw [← hl]; exact hY
  rw [hl]
  clear he hl hZ hY
  generalize hn : zs.length = n at *
  have HN : Hid (zs.length = n) := hn
  clear hn
  go_enter Tryz.func88, Tryz.ntmps88
  go_wp2
  go_loopg [5] n (fun gh s5 wr => ∃ k : Nat, k + gh = n ∧ s5 = .int .i64 (k : Int) ∧ Below w.heap.size w wr)
  case atStart => exact ⟨0, by simp, rfl, Below.refl _ _⟩
  case round =>
    obtain ⟨k, hkg, rfl, hb⟩ := hrel
    by_cases hlt : k < n
    · have hlti : (k : Int) < (n : Int) := by omega
      have hz : zs[k]? = some (zs[k]'(by have := HN.out; omega)) := List.getElem?_eq_getElem _
      have hy : ys[k]? = some (ys[k]'(by have := HN.out; have := HL.out; omega)) := List.getElem?_eq_getElem _
      obtain ⟨z, hzz⟩ : ∃ z, z = zs[k]'(by have := HN.out; omega) := ⟨_, rfl⟩
      obtain ⟨y, hyy⟩ : ∃ y, y = ys[k]'(by have := HN.out; have := HL.out; omega) := ⟨_, rfl⟩
      rw [← hzz] at hz
      rw [← hyy] at hy
      have hm : y.1 = z.1 := by
        have h1 := mes_at hz
        have h2 := mes_at hy
        rw [HE.out, h2] at h1
        exact Option.some.inj h1
      clear hzz hyy
      obtain ⟨zm, zsl⟩ := z
      obtain ⟨ym, ysl⟩ := y
      dsimp only at hm
      subst hm
      obtain ⟨pb, po, rfl, cz⟩ := rde_at HZ.out.1 hz
      obtain ⟨qb, qo, rfl, cy⟩ := rde_at HY.out.1 hy
      have ks := fun W (hW : Below w.heap.size w W) => sameE_of ym zsl ysl W ((HZ.out.2 _ (List.mem_of_getElem? hz)).below hW) ((HY.out.2 _ (List.mem_of_getElem? hy)).below hW) (hok _ (List.mem_of_getElem? hz)).2.2
      obtain ⟨ix, tm, kd, dt⟩ := ym
      obtain ⟨sa, sn, sc⟩ := zsl
      obtain ⟨ua, un, uc⟩ := ysl
      dsimp only [ev] at cz cy ks
      have czw := fun W (hW : Below wr.heap.size wr W) => cz W (hb.trans (hW.mono hb.size))
      have cyw := fun W (hW : Below wr.heap.size wr W) => cy W (hb.trans (hW.mono hb.size))
      have ksw := fun W (hW : Below wr.heap.size wr W) => ks W (hb.trans (hW.mono hb.size))
      clear cz cy ks hz hy HZ HY HE HL HN hok
      go_wp2
      refine wp_region_L (fun W => Below wr.heap.size wr W) [] (by kernel_rfl) ?_
      have yS : (fun W => Below wr.heap.size wr W) wr.drew := (Below.refl _ wr).drew
      refine wpAnyL_take 0 rfl (by kernel_rfl) (by kernel_rfl) (by kernel_rfl) (by kernel_rfl) (fun _ _ _ h => h) (by kernel_rfl) (by intro w' hS'; have hz := hS'; obtain ⟨x0, x1, x2, x3⟩ := czw _ hz; obtain ⟨y0, y1, y2, y3⟩ := cyw _ hz; go_simp <;> rfl) yS ?_
      try simp only [List.getElem_toArray, List.getElem_cons_succ, List.getElem_cons_zero, Act.put, List.setIfInBounds_toArray, List.set_cons_zero, List.set_cons_succ]
      refine wpAnyL_take 1 rfl (by kernel_rfl) (by kernel_rfl) (by kernel_rfl) (by kernel_rfl) (fun _ _ _ h => h) (by kernel_rfl) (by intro w' hS'; have hz := hS'; obtain ⟨x0, x1, x2, x3⟩ := czw _ hz; obtain ⟨y0, y1, y2, y3⟩ := cyw _ hz; go_simp <;> rfl) yS ?_
      try simp only [List.getElem_toArray, List.getElem_cons_succ, List.getElem_cons_zero, Act.put, List.setIfInBounds_toArray, List.set_cons_zero, List.set_cons_succ]
      refine wpAnyL_take 2 rfl (by kernel_rfl) (by kernel_rfl) (by kernel_rfl) (by kernel_rfl) (fun _ _ _ h => h) (by kernel_rfl) (by intro w' hS'; have hz := hS'; obtain ⟨x0, x1, x2, x3⟩ := czw _ hz; obtain ⟨y0, y1, y2, y3⟩ := cyw _ hz; go_simp <;> rfl) yS ?_
      try simp only [List.getElem_toArray, List.getElem_cons_succ, List.getElem_cons_zero, Act.put, List.setIfInBounds_toArray, List.set_cons_zero, List.set_cons_succ]
      refine wpAnyL_take 3 rfl (by kernel_rfl) (by kernel_rfl) (by kernel_rfl) (by kernel_rfl) (fun _ _ _ h => h) (by kernel_rfl) (by intro w' hS'; have hz := hS'; obtain ⟨x0, x1, x2, x3⟩ := czw _ hz; obtain ⟨y0, y1, y2, y3⟩ := cyw _ hz; go_simp <;> rfl) yS ?_
      try simp only [List.getElem_toArray, List.getElem_cons_succ, List.getElem_cons_zero, Act.put, List.setIfInBounds_toArray, List.set_cons_zero, List.set_cons_succ]
      refine wpAnyL_take 4 rfl (by kernel_rfl) (by kernel_rfl) (by kernel_rfl) (by kernel_rfl) (fun _ _ _ h => h) (by kernel_rfl) (by intro w' hS'; have hz := hS'; obtain ⟨x0, x1, x2, x3⟩ := czw _ hz; obtain ⟨y0, y1, y2, y3⟩ := cyw _ hz; go_simp <;> rfl) yS ?_
      try simp only [List.getElem_toArray, List.getElem_cons_succ, List.getElem_cons_zero, Act.put, List.setIfInBounds_toArray, List.set_cons_zero, List.set_cons_succ]
      refine wpAnyL_take 5 rfl (by kernel_rfl) (by kernel_rfl) (by kernel_rfl) (by kernel_rfl) (fun _ _ _ h => h) (by kernel_rfl) (by intro w' hS'; have hz := hS'; obtain ⟨x0, x1, x2, x3⟩ := czw _ hz; obtain ⟨y0, y1, y2, y3⟩ := cyw _ hz; go_simp <;> rfl) yS ?_
      try simp only [List.getElem_toArray, List.getElem_cons_succ, List.getElem_cons_zero, Act.put, List.setIfInBounds_toArray, List.set_cons_zero, List.set_cons_succ]
      refine wpAnyL_take 6 rfl (by kernel_rfl) (by kernel_rfl) (by kernel_rfl) (by kernel_rfl) (fun _ _ _ h => h) (by kernel_rfl) (by intro w' hS'; have hz := hS'; obtain ⟨x0, x1, x2, x3⟩ := czw _ hz; obtain ⟨y0, y1, y2, y3⟩ := cyw _ hz; go_simp <;> rfl) yS ?_
      try simp only [List.getElem_toArray, List.getElem_cons_succ, List.getElem_cons_zero, Act.put, List.setIfInBounds_toArray, List.set_cons_zero, List.set_cons_succ]
      refine wpAnyL_take 7 rfl (by kernel_rfl) (by kernel_rfl) (by kernel_rfl) (by kernel_rfl) (fun _ _ _ h => h) (by kernel_rfl) (by intro w' hS'; have hz := hS'; obtain ⟨x0, x1, x2, x3⟩ := czw _ hz; obtain ⟨y0, y1, y2, y3⟩ := cyw _ hz; go_simp <;> rfl) yS ?_
      try simp only [List.getElem_toArray, List.getElem_cons_succ, List.getElem_cons_zero, Act.put, List.setIfInBounds_toArray, List.set_cons_zero, List.set_cons_succ]
      refine wpAnyL_one 8 (by kernel_rfl) rfl (by kernel_rfl) ?_
      intro K' hK'
      go_simp
      go_at_call 45
      refine (ksw _ yS).mono ?_
      rintro e W1 ⟨rfl, hS0⟩
      have hS1 : Below wr.heap.size wr W1 := keep_on yS hS0
      refine hK'.out _ _ (.inr hS1) ?_
      clear hK' K'
      try simp only [List.getElem_toArray, List.getElem_cons_succ, List.getElem_cons_zero, Act.put, List.setIfInBounds_toArray, List.set_cons_zero, List.set_cons_succ]
      refine wpAnyL_take 9 rfl (by kernel_rfl) (by kernel_rfl) (by kernel_rfl) (by kernel_rfl) (fun _ _ _ h => h) (by kernel_rfl) (by intro w' hS'; have hz := hS'; obtain ⟨x0, x1, x2, x3⟩ := czw _ hz; obtain ⟨y0, y1, y2, y3⟩ := cyw _ hz; go_simp <;> rfl) hS1 ?_
      try simp only [List.getElem_toArray, List.getElem_cons_succ, List.getElem_cons_zero, Act.put, List.setIfInBounds_toArray, List.set_cons_zero, List.set_cons_succ]
      refine wpAnyL_done (by kernel_rfl) (NoPanic.normal ?_) _
      go_wp2
      go_roundg (gk - 1)
      case measure => omega
      case rel => exact ⟨k + 1, by omega, by go_num, hb.trans (hS1.mono hb.size)⟩
    · have hlti : ¬ (k : Int) < (n : Int) := by omega
      clear HZ HY HE HL HN hok
      go_wp2
      go_ret
      exact ⟨rfl, hb⟩

set_option maxHeartbeats 2000000 in
theorem same_of (m : Me) (s u : Sl) (zs ys : List Ez) (zv yv : Value) (w : World) (hS : DataV w (m, s)) (hU : DataV w (m, u)) (hc : ∀ c ∈ m.data, c < 256) (hZ : EntsV w zv zs) (hY : EntsV w yv ys) (he : mes zs = mes ys) (hok : ∀ z ∈ zs, EzOk z) (hlen : zs.length ≤ 1000000000000) : Calls Tryz.prog 50 #[lgv (m, s) zv, lgv (m, u) yv] w fun e w' => e = .returned (.bool true) ∧ Below w.heap.size w w' := by
  obtain ⟨hs0, hb0, cl⟩ := lg_box w (m, s) zv
  obtain ⟨hs1, hb1, cl1⟩ := lg_box (w.alloc (lgc (m, s) zv)) (m, u) yv
  have hb01 := hb0.trans (hb1.mono hb0.size)
  rw [hs0] at hs1 hb1 cl1
  have hb1' : Below (w.heap.size + 1) (w.alloc (lgc (m, s) zv)) ((w.alloc (lgc (m, s) zv)).alloc (lgc (m, u) yv)) := hb1
  obtain ⟨c0, c1, c2, c3, c4⟩ := cl _ hb1'
  obtain ⟨d0, d1, d2, d3, d4⟩ := cl1 _ (Below.refl _ _)
  have k1 := sameE_of m s u ((w.alloc (lgc (m, s) zv)).alloc (lgc (m, u) yv)) (hS.below hb01) (hU.below hb01) hc
  have k2 := fun W (hW : Below w.heap.size w W) => sameEs_of zs ys zv yv W (hZ.below hW) (hY.below hW) he hok hlen
  rw [hs1] at k1
  obtain ⟨za, zc, rfl, -, -⟩ := hZ.1.shape
  obtain ⟨ya, yc, rfl, -, -⟩ := hY.1.shape
  obtain ⟨ix, tm, kd, dt⟩ := m
  obtain ⟨sa, sn, sc⟩ := s
  obtain ⟨ua, un, uc⟩ := u
  dsimp only [lgc, ev] at *
  have clW := fun W hW => (cl W (hb1'.trans hW)).2.2.2.2
  have clW1 := fun W hW => (cl1 W hW).2.2.2.2
  have hws : ∀ W, Below (w.heap.size + 1 + 1) ((w.alloc (.cells #[.int .u64 (ix : Int), .int .u64 (tm : Int), .int .i64 kd, .slice sa sn sc, .slice za zs.length zc] 28)).alloc (.cells #[.int .u64 (ix : Int), .int .u64 (tm : Int), .int .i64 kd, .slice ua un uc, .slice ya ys.length yc] 28)) W → W.cell? ⟨w.heap.size, 4, none⟩ = some (.slice za zs.length zc) ∧ W.cell? ⟨w.heap.size + 1, 4, none⟩ = some (.slice ya ys.length yc) := fun W hW => ⟨clW W (hW.mono (Nat.le_succ _)), clW1 W hW⟩
  clear cl cl1 hS hU hZ hY hc he hok clW clW1
  go_enter Tryz.func50, Tryz.ntmps50
  go_wp2_with fail
  refine k1.mono ?_
  rintro e w1 ⟨rfl, hb2⟩
  obtain ⟨e4, f4⟩ := hws w1 hb2
  have hb02 := hb01.trans (hb2.mono (by omega))
  have k21 := k2 w1 hb02
  clear k1 k2 hws c0 c1 c2 c3 c4 d0 d1 d2 d3 d4
  go_wp2_with fail
  refine k21.mono ?_
  rintro e w2 ⟨rfl, hb3⟩
  go_wp2
  go_ret
  exact ⟨rfl, hb02.trans (hb3.mono hb02.size)⟩
end Go.Proofs.YtncoandnelgkeaaGreat

/- The contracts of the document's Slice and of the law's light. -/
namespace Go.Proofs.YtncoandnelgkeaaGreat
open Go.RowKit QuorumMath RlogMath
set_option maxRecDepth 100000
set_option linter.unusedSimpArgs false
set_option linter.unusedVariables false

theorem infoEnt : (Tryz.prog.info? 25).map (fun i => (i.zero, i.size, i.bytes)) = some (some (.agg #[.int .u64 0, .int .u64 0, .int .i64 0, .slice none 0 0]), 4, 48) := by kernel_rfl
theorem push_ent {w : World} {v : Value} {xs : List Ez} (z : Ez) (h : Rk entE w 25 v xs) (hlen : xs.length ≤ 10000000000) :
    ∀ ty, ∃ v' w', (Builtin.append_ #[26, 26] ty #[v, .slice (some ⟨w.heap.size, 0, none⟩) 1 1]).run Tryz.prog (w.alloc (.cells #[.int .u64 (z.1.idx : Int), .int .u64 (z.1.term : Int), .int .i64 z.1.kind, .slice z.2.1 z.2.2.1 z.2.2.2] 25)) = .ok v' w' ∧ PushT entE 25 w v (xs ++ [z]) v' w' :=
  push_el entE Tryz.underlying26 infoEnt rfl (by decide) z h hlen

/-- What Slice picks. -/
def pickZ (x : Nat) (most : Int) (zs : List Ez) : List Ez := (zs.filter fun z => decide (x ≤ z.1.idx)).take most.toNat
def sliceZ (b : Ez) (zs : List Ez) (x : Nat) (most : Int) : List Ez := if b.1.idx < x then pickZ x most zs else []
theorem pick_nil (x : Nat) (most : Int) : pickZ x most [] = [] := by simp [pickZ]
theorem pick_no {x : Nat} {most : Int} {zs : List Ez} {k : Nat} {z : Ez} (hz : zs[k]? = some z) (h : ¬ (x ≤ z.1.idx ∧ ((pickZ x most (zs.take k)).length : Int) < most)) : pickZ x most (zs.take (k + 1)) = pickZ x most (zs.take k) := by
  unfold pickZ at *
  rw [take_succ_get hz, List.filter_append]
  by_cases hx : x ≤ z.1.idx
  · have h1 : ¬ (((List.filter (fun z => decide (x ≤ z.1.idx)) (zs.take k)).take most.toNat).length : Int) < most := fun hh => h ⟨hx, hh⟩
    rw [List.length_take] at h1
    rw [List.take_append_of_le_length (by omega)]
  · simp [hx]
theorem pick_yes {x : Nat} {most : Int} {zs : List Ez} {k : Nat} {z : Ez} (hz : zs[k]? = some z) (hx : x ≤ z.1.idx) (h : ((pickZ x most (zs.take k)).length : Int) < most) : pickZ x most (zs.take (k + 1)) = pickZ x most (zs.take k) ++ [z] := by
  unfold pickZ at *
  rw [take_succ_get hz, List.filter_append]
  rw [List.length_take] at h
  have e : List.filter (fun z => decide (x ≤ z.1.idx)) [z] = [z] := by simp [hx]
  rw [e, List.take_append, List.take_of_length_le (by omega)]
  congr 1
  rw [List.take_of_length_le (by simp; omega)]
theorem pick_sub (x : Nat) (most : Int) (zs : List Ez) : ∀ z ∈ pickZ x most zs, z ∈ zs := fun z hz => (List.mem_filter.1 (List.mem_of_mem_take hz)).1
theorem pick_len (x : Nat) (most : Int) (zs : List Ez) : (pickZ x most zs).length ≤ zs.length := by
  unfold pickZ
  rw [List.length_take]
  exact Nat.le_trans (Nat.min_le_right _ _) (List.length_filter_le _ _)

end Go.Proofs.YtncoandnelgkeaaGreat

/- Logs as results. -/
namespace Go.Proofs.YtncoandnelgkeaaGreat
open Go.RowKit QuorumMath RlogMath
set_option maxRecDepth 100000
set_option linter.unusedSimpArgs false
set_option linter.unusedVariables false

theorem results_lg {fn : Func} {p u : Tmp} (h : fn.results = #[.cell p 28, .tmp u]) (tmps : Array Value) (w : World) (g : Nat) (a b c d e : Value)
    (hp : tmps.getD p undef = .pointer (some ⟨g, 0, none⟩)) (hg : w.heap[g]? = some (.cells #[a, b, c, d, e] 28 (0, 0))) :
    (results fn tmps).run Tryz.prog w = .ok (.tuple #[.agg #[a, b, c, d, e], tmps.getD u undef]) w := by
  have hp' : tmps[p]?.getD undef = .pointer (some ⟨g, 0, none⟩) := by simpa using hp
  simp [results, h, hp', asAddr, run_loadVar_row w g 28 28 #[a, b, c, d, e] (0, 0) _ hg Tryz.underlying28 rfl (by kernel_rfl)]
theorem lg_set {w : World} {g : Nat} {a b c d e : Value} {t : TypeId} (h : w.heap[g]? = some (.cells #[a, b, c, d, e] t (0, 0))) (x0 x1 x2 x3 x4 : Value) : (((((w.setCell ⟨g, 0, none⟩ x0).setCell ⟨g, 1, none⟩ x1).setCell ⟨g, 2, none⟩ x2).setCell ⟨g, 3, none⟩ x3).setCell ⟨g, 4, none⟩ x4).heap[g]? = some (.cells #[x0, x1, x2, x3, x4] t (0, 0)) := by
  simp [World.setCell, Array.getElem?_modify, h]
theorem lg_set_below {n : Nat} {w w' : World} (h : Below n w w') {g : Nat} (hg : n ≤ g) (x0 x1 x2 x3 x4 : Value) : Below n w (((((w'.setCell ⟨g, 0, none⟩ x0).setCell ⟨g, 1, none⟩ x1).setCell ⟨g, 2, none⟩ x2).setCell ⟨g, 3, none⟩ x3).setCell ⟨g, 4, none⟩ x4) :=
  ((((h.setCell (p := ⟨g, 0, none⟩) hg _).setCell (p := ⟨g, 1, none⟩) hg _).setCell (p := ⟨g, 2, none⟩) hg _).setCell (p := ⟨g, 3, none⟩) hg _).setCell (p := ⟨g, 4, none⟩) hg _
/-- A log's value, by what it says. -/
def LogM (w : World) (v : Value) (b : Me) (l : List Me) : Prop := ∃ (s : Sl) (zs : List Ez) (lv : Value), v = lgv (b, s) lv ∧ DataV w (b, s) ∧ EntsV w lv zs ∧ mes zs = l
theorem LogM.below {w w' : World} {v : Value} {b : Me} {l : List Me} (h : LogM w v b l) (hb : Below w.heap.size w w') : LogM w' v b l := by
  obtain ⟨s, zs, lv, h1, h2, h3, h4⟩ := h
  exact ⟨s, zs, lv, h1, h2.below hb, h3.below hb, h4⟩
theorem rdb_nil (w : World) : Rd byteE w (.slice none 0 0) [] := ⟨none, 0, rfl, by simp, fun _ => rfl, fun i x j u hx => by simp at hx⟩
theorem ents_nil (w : World) : EntsV w (.slice none 0 0) [] := ⟨⟨none, 0, rfl, by simp, fun _ => rfl, fun i x j u hx => by simp at hx⟩, fun z hz => by simp at hz⟩
/-- What Append tells. -/
def LgT (r : Int × Me × List Me) (e : Ending) (w' : World) : Prop := ∃ v, e = .returned (.tuple #[v, .int .i64 r.1]) ∧ LogM w' v r.2.1 r.2.2
end Go.Proofs.YtncoandnelgkeaaGreat

