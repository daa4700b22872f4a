import Derived.Test.YtoipjmjhplkibaaDoorQ28
import Derived.Test.YtoipjmjhplkibaaDoorQ20
import Derived.Test.YtoipjmjhplkibaaDoorQ26
import Derived.Test.YtoipjmjhplkibaaDoorQ15
import Derived.Test.YtoipjmjhplkibaaDoorQ11
/- The contract of the document's own Chunks: bytes in pieces. -/
namespace Go.Proofs.YtoipjmjhplkibaaDoor
open Go.RowKit
set_option maxRecDepth 100000
set_option linter.unusedSimpArgs false
set_option linter.unusedVariables false

theorem infoSl : (Tryd.prog.info? 22).map (fun i => (i.zero, i.size, i.bytes)) = some (some (.slice none 0 0), 1, 24) := by kernel_rfl

/-- A row of byte slices, of the call's own; what they hold lies below. -/
def Ck (n₀ e₀ : Nat) (w : World) (ov : Value) (ds : List (List Nat)) : Prop :=
  ∃ vs, w.ownsRow n₀ 22 1 ov ds.length vs ∧ vs.length = ds.length ∧ ∀ (i : Nat) (v : Value) (d : List Nat), vs[i]? = some v → ds[i]? = some d → Fr.Bs e₀ w v d
theorem Ck.below {n₀ e₀ : Nat} {w w' : World} {ov : Value} {ds : List (List Nat)} (h : Ck n₀ e₀ w ov ds) (hb : Below w.heap.size w w') (hn : e₀ ≤ w.heap.size) : Ck n₀ e₀ w' ov ds := by
  obtain ⟨vs, h1, h2, h3⟩ := h
  exact ⟨vs, ownsRow_below h1 hb, h2, fun i v d hv hd => (h3 i v d hv hd).below (hb.mono hn)⟩
theorem Ck.made (w : World) (e₀ : Nat) : Ck w.heap.size e₀ (w.alloc (.cells #[] 22)) (.slice (some ⟨w.heap.size, 0, none⟩) 0 0) [] :=
  ⟨[], World.ownsRow_made w #[] 0 (Nat.le_refl _) (Nat.zero_le _) rfl, rfl, fun i v d h => by simp at h⟩
theorem Ck.shape {n₀ e₀ : Nat} {w : World} {ov : Value} {ds : List (List Nat)} (h : Ck n₀ e₀ w ov ds) : ∃ ao cap, ov = .slice ao ds.length cap := by
  obtain ⟨vs, h1, -⟩ := h
  rcases h1 with ⟨-, ⟨hv, hn⟩ | ⟨g, cap, fl, hv, -⟩⟩
  · exact ⟨none, 0, by rw [hv, hn]⟩
  · exact ⟨_, _, hv⟩
theorem bs_one {n₀ : Nat} {w : World} {v : Value} {l : List Nat} (h : Fr.Bs n₀ w v l) : v.oneCell' = true := by
  obtain ⟨ao, cap, rfl, -⟩ := h
  rfl

set_option maxHeartbeats 1000000 in
theorem wp_push_chunk {w : World} {ops : Array Oper} {rest : List Oper} {o : Oper} {a : Act} {Q : Exit → Act → World → Prop} (hgd : o.guard = none) (s x : Operand)
    (ho : o.op = .call { callee := .builtin .append, args := #[s, x], argTypes := #[24, 24] })
    (n₀ e₀ : Nat) (ov : Value) (ds : List (List Nat)) (sv : Value) (d : List Nat) (hC : Ck n₀ e₀ w ov ds) (hB : Fr.Bs e₀ w sv d) (he₀ : e₀ ≤ n₀) (hn₀ : n₀ ≤ w.heap.size) (hlen : ds.length ≤ 1000000)
    (hs : a.eval s = ov) (hx : a.eval x = .slice (some ⟨w.heap.size, 0, none⟩) 1 1)
    (h : ∀ ov' w', Ck n₀ e₀ w' ov' (ds ++ [d]) → Below n₀ w w' → wpList Tryd.prog ops Q rest (a.put o.dst ov') w') : wpList Tryd.prog ops Q (o :: rest) a (w.alloc (.cells #[sv] 22)) := by
  obtain ⟨i0, hi, hz0, hz1, hz2⟩ := info_parts infoSl
  have hb1 := (Below.refl w.heap.size w).alloc (Nat.le_refl _) (.cells #[sv] 22)
  obtain ⟨vs, g1, g2, g3⟩ := hC
  have h1 := ownsRow_below g1 hb1
  have hsz := hb1.size
  refine wpList_append_own2 hgd s x 24 22 ho n₀ i0 (.slice none 0 0) 1 24 Tryd.underlying24 hi hz0 hz1 hz2 rfl (by decide) ov ds.length vs hs h1
    ⟨w.heap.size, 0, none⟩ 1 1 [sv] hx rfl ?_ (by intro u hu; rw [List.mem_singleton.1 hu]; exact bs_one hB) (by unfold maxLen; omega) (by omega) (Nat.le_trans hn₀ hsz) ?_
  · intro j u hj
    rw [Addr.add_lit, cells_of_block (heap_alloc_new w _), Nat.zero_add, ← Array.getElem?_toList]
    exact hj
  intro ov' w' hO hg hfr
  have hbf : Below n₀ w w' := (hb1.mono hn₀).trans ((Below.refl n₀ _).grown hg (Nat.le_trans hn₀ hsz) (fun k hk => (World.ownsRow.lt h1 k hk).1))
  refine h ov' w' ⟨vs ++ [sv], by rw [List.length_append]; exact hO, by simp [g2], fun i v d' hv hd => ?_⟩ hbf
  by_cases hiv : i < vs.length
  · rw [List.getElem?_append_left hiv] at hv
    rw [List.getElem?_append_left (by omega)] at hd
    exact (g3 i v d' hv hd).below (hbf.mono he₀)
  · rw [List.getElem?_append_right (by omega)] at hv
    rw [List.getElem?_append_right (by omega)] at hd
    have h0 : i - vs.length = 0 := by
      have := (List.getElem?_eq_some_iff.1 hv).1
      simp at this
      omega
    rw [h0] at hv
    rw [← g2, h0] at hd
    obtain rfl : sv = v := by simpa using hv
    obtain rfl : d = d' := by simpa using hd
    exact hB.below (hbf.mono he₀)

set_option maxHeartbeats 2000000 in
theorem refChunks_of (e₀ : Nat) (l : List Nat) (v : Value) (w : World) (hB : Fr.Bs e₀ w v l) (he₀ : e₀ ≤ w.heap.size) (hlen : l.length ≤ 100000) :
    Calls Tryd.prog 6 #[v] w fun e w' => ∃ ov, e = .returned ov ∧ Ck w.heap.size e₀ w' ov (chk l) ∧ Below w.heap.size w w' := by
  obtain ⟨ao, cap, rfl, h2, h3, h4, h5⟩ := id hB
  have hC0 := Ck.made w e₀
  have hb0 := (Below.refl w.heap.size w).alloc (Nat.le_refl _) (.cells #[] 22)
  have hB0 := hB.below (hb0.mono he₀)
  obtain ⟨CL, HC⟩ : ∃ CL, Hid (CL = chk l) := ⟨_, rfl⟩
  rw [← HC.out]
  go_enter Tryd.func6, Tryd.ntmps6
  go_wp2
  go_loopg [0, 3, 4] l.length (fun g s0 s3 s4 wr => ∃ (i : Nat) (ds : List (List Nat)) (r : List Nat), Hid (r.length = g) ∧ i ≤ 1000 ∧ Hid (i * 256 + r.length = l.length) ∧ s4 = .int .i64 (i : Int) ∧ Hid (CL = ds ++ chk r) ∧ Hid (ds.length = i) ∧ Fr.Bs e₀ wr s0 r ∧ Ck w.heap.size e₀ wr s3 ds ∧ Below w.heap.size w wr)
  case atStart => exact ⟨0, [], l, rfl, by omega, (by show 0 * 256 + l.length = l.length; omega), rfl, HC, rfl, hB0, hC0, hb0⟩
  case round =>
    obtain ⟨i, ds, r, hg, hi, hir, rfl, HE, hdl, hBr, hCr, hbr⟩ := hrel
    obtain ⟨ar, cr, rfl, g2, g3, g4, g5⟩ := id hBr
    obtain ⟨ac, cc, rfl⟩ := hCr.shape
    have hsz := hbr.size
    have hcr : (cr : Int) ≤ 9223372036854775807 := by unfold maxLen at g3; omega
    clear HC hB hB0 hC0 hb0
    by_cases hgo : 256 < r.length
    · have hgi : (256 : Int) < (r.length : Int) := by omega
      obtain ⟨bb, off, rfl, hbl, hcl⟩ := g5 (by rintro rfl; simp at hgo)
      have e1 : (256 : Int) ≤ (cr : Int) := by omega
      have e2 : 256 ≤ cr := by omega
      have e3 : ¬ cr = 256 := by omega
      have e4 : (r.length : Int) ≤ (cr : Int) := by omega
      have hBt := Fr.Bs.took hBr (Nat.le_of_lt hgo)
      have hBd := Fr.Bs.drop hBr 256 (Nat.le_of_lt hgo)
      rw [if_neg e3] at hBd
      have HE' : Hid (CL = (ds ++ [r.take 256]) ++ chk (r.drop 256)) := by
        show _ = _
        rw [HE.out, chk_more hgo, List.append_assoc]
        rfl
      have hrl : Hid ((r.drop 256).length = r.length - 256) := List.length_drop
      generalize r.take 256 = rt at *
      generalize r.drop 256 = rd at *
      clear HE hBr g5 hcl
      go_wp2_with (at_builtin; refine wp_push_chunk rfl _ _ rfl w.heap.size e₀ _ ds _ rt hCr hBt he₀ hsz ?s1 (by rfl) rfl ?_)
      case s1 => have := hdl.out; omega
      intro ov' w' hC' hb'
      have hBd' := hBd.below (hb'.mono he₀)
      have hbw := hbr.trans hb'
      clear hBd hBt hCr
      go_wp2
      go_roundg (gk - 256)
      case measure => have := hg.out; omega
      case rel => exact ⟨i + 1, ds ++ [rt], rd, (by show _ = _; have := hg.out; have := hrl.out; omega), (by have := hir.out; omega), (by show _ = _; have := hir.out; have := hrl.out; omega), by go_num, HE', (by show _ = _; have := hdl.out; simp; omega), hBd', hC', hbw⟩
    · have hgi : ¬ (256 : Int) < (r.length : Int) := by omega
      have HE' : Hid (CL = ds ++ [r]) := by show _ = _; rw [HE.out, chk_one hgo]
      clear HE g5
      go_wp2_with (at_builtin; refine wp_push_chunk rfl _ _ rfl w.heap.size e₀ _ ds _ r hCr hBr he₀ hsz ?s1 (by rfl) rfl ?_)
      case s1 => have := hdl.out; omega
      intro ov' w' hC' hb'
      have hbw := hbr.trans hb'
      rw [← HE'.out] at hC'
      obtain ⟨ao', co', rfl⟩ := hC'.shape
      clear hBr hCr
      go_wp2
      go_ret
      exact ⟨_, rfl, hC', hbw⟩
end Go.Proofs.YtoipjmjhplkibaaDoor

