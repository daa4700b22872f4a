import Derived.Test.YtncoandnelgkeaaGreatHb45
import Derived.Test.YtncoandnelgkeaaGreatHb14
/- What turns stays in bounds: plain mathematics. -/
namespace Go.Proofs.YtncoandnelgkeaaGreat
open QuorumMath RlogMath RaftMath
set_option linter.unusedSimpArgs false
set_option linter.unusedVariables false

/-- A state that turns and what it says, in bounds: L messages, M entries. -/
structure OkB (L M : Nat) (s : Ms) : Prop where
  base : OkM s.r.base
  log : ∀ e ∈ s.r.log, OkM e
  ln : s.r.log.length ≤ M
  out : ∀ m ∈ s.out, OkG m
  on : s.out.length ≤ L
  pn : s.r.peers.length ≤ 1000000000
  vn : s.r.votes.length ≤ 1000000000
theorem votF_lenM : ∀ (l : List Me) (d : List Nat), d.length ≤ 1000000000 → (∀ e ∈ l, OkM e) → (votF d l).length ≤ 1000000000
  | [], d, h, _ => h
  | e :: l, d, h, hl => by
    unfold votF
    refine votF_lenM l _ ?_ (fun x hx => hl x (by simp [hx]))
    split
    · exact (hl e (by simp)).2.2.2
    · exact h
theorem votR_len {r : Mr} (hb : OkM r.base) (hl : ∀ e ∈ r.log, OkM e) : (votR r).length ≤ 1000000000 := by
  unfold votR votM
  rw [nodesI_len]
  exact votF_lenM _ _ hb.2.2.2 hl
theorem OkB.mono {L M L' M' : Nat} {s : Ms} (h : OkB L M s) (hL : L ≤ L') (hM : M ≤ M') : OkB L' M' s := ⟨h.base, h.log, Nat.le_trans h.ln hM, h.out, Nat.le_trans h.on hL, h.pn, h.vn⟩
end Go.Proofs.YtncoandnelgkeaaGreat

/- The program's Same, where both are one. -/
namespace Go.Proofs.YtncoandnelgkeaaGreat
open Go.RowKit QuorumMath RlogMath RaftMath
set_option maxRecDepth 100000
set_option linter.unusedSimpArgs false
set_option linter.unusedVariables false

set_option maxHeartbeats 2000000 in
theorem eqInts_of (ps : List Int) (lv mv : Value) (w : World) (hF : Rd intE w lv ps) (hG : Rd intE w mv ps) (hlen : ps.length ≤ 1000000000000) : Calls Tryz.prog 47 #[lv, mv] w fun e w' => e = .returned (.bool true) ∧ Below w.heap.size w w' := by
  obtain ⟨ao, cap, rfl, -, -⟩ := hF.shape
  obtain ⟨am, cm, rfl, -, -⟩ := hG.shape
  go_enter Tryz.func47, Tryz.ntmps47
  go_wp2
  go_loopg [13] ps.length (fun g s13 wr => ∃ i : Nat, i + g = ps.length ∧ s13 = .int .i64 (i : Int) ∧ Below w.heap.size w wr)
  case atStart => exact ⟨0, by simp, rfl, Below.refl _ _⟩
  case round =>
    obtain ⟨i, hig, rfl, hb⟩ := hrel
    by_cases hlt : i < ps.length
    · have hlti : (i : Int) < (ps.length : Int) := by omega
      have hx : ps[i]? = some ps[i] := List.getElem?_eq_getElem hlt
      obtain ⟨x, hxx⟩ : ∃ x, x = ps[i] := ⟨_, rfl⟩
      rw [← hxx] at hx
      clear hxx
      obtain ⟨b, off, rfl, c⟩ := rdi_at hF hx
      obtain ⟨b', off', rfl, c'⟩ := rdi_at hG hx
      have HC : Hid _ := c
      have HD : Hid _ := c'
      clear hx c c' hF hG
      go_wp2
      refine wp_region_L (fun W => Below w.heap.size w W) [] (by kernel_rfl) ?_
      have y0 : Below w.heap.size w wr.drew := hb.drew
      generalize wr.drew = wd at *
      refine wpAnyL_take 0 rfl (by kernel_rfl) (by kernel_rfl) (by kernel_rfl) (by kernel_rfl) (fun _ _ _ h => h) (wanted_none rfl) (by intro w' hS'; have c0 := HC.out _ hS'; have d0 := HD.out _ hS'; go_simp <;> rfl) y0 ?_
      try simp only [List.getElem_toArray, List.getElem_cons_succ, List.getElem_cons_zero, Act.put, List.setIfInBounds_toArray, List.set_cons_zero, List.set_cons_succ]
      refine wpAnyL_take 1 rfl (by kernel_rfl) (by kernel_rfl) (by kernel_rfl) (by kernel_rfl) (fun _ _ _ h => h) (wanted_none rfl) (by intro w' hS'; have c0 := HC.out _ hS'; have d0 := HD.out _ hS'; go_simp <;> rfl) y0 ?_
      try simp only [List.getElem_toArray, List.getElem_cons_succ, List.getElem_cons_zero, Act.put, List.setIfInBounds_toArray, List.set_cons_zero, List.set_cons_succ]
      refine wpAnyL_take 2 rfl (by kernel_rfl) (by kernel_rfl) (by kernel_rfl) (by kernel_rfl) (fun _ _ _ h => h) (wanted_none rfl) (by intro w' hS'; have c0 := HC.out _ hS'; have d0 := HD.out _ hS'; go_simp <;> rfl) y0 ?_
      try simp only [List.getElem_toArray, List.getElem_cons_succ, List.getElem_cons_zero, Act.put, List.setIfInBounds_toArray, List.set_cons_zero, List.set_cons_succ]
      refine wpAnyL_take 3 rfl (by kernel_rfl) (by kernel_rfl) (by kernel_rfl) (by kernel_rfl) (fun _ _ _ h => h) (wanted_none rfl) (by intro w' hS'; have c0 := HC.out _ hS'; have d0 := HD.out _ hS'; go_simp <;> rfl) y0 ?_
      try simp only [List.getElem_toArray, List.getElem_cons_succ, List.getElem_cons_zero, Act.put, List.setIfInBounds_toArray, List.set_cons_zero, List.set_cons_succ]
      refine wpAnyL_take 4 rfl (by kernel_rfl) (by kernel_rfl) (by kernel_rfl) (by kernel_rfl) (fun _ _ _ h => h) (wanted_none rfl) (by intro w' hS'; have c0 := HC.out _ hS'; have d0 := HD.out _ hS'; go_simp <;> rfl) y0 ?_
      try simp only [List.getElem_toArray, List.getElem_cons_succ, List.getElem_cons_zero, Act.put, List.setIfInBounds_toArray, List.set_cons_zero, List.set_cons_succ]
      refine wpAnyL_take 5 rfl (by kernel_rfl) (by kernel_rfl) (by kernel_rfl) (by kernel_rfl) (fun _ _ _ h => h) (wanted_none rfl) (by intro w' hS'; have c0 := HC.out _ hS'; have d0 := HD.out _ hS'; go_simp <;> rfl) y0 ?_
      try simp only [List.getElem_toArray, List.getElem_cons_succ, List.getElem_cons_zero, Act.put, List.setIfInBounds_toArray, List.set_cons_zero, List.set_cons_succ]
      refine wpAnyL_take 6 rfl (by kernel_rfl) (by kernel_rfl) (by kernel_rfl) (by kernel_rfl) (fun _ _ _ h => h) (wanted_none rfl) (by intro w' hS'; have c0 := HC.out _ hS'; have d0 := HD.out _ hS'; go_simp <;> rfl) y0 ?_
      try simp only [List.getElem_toArray, List.getElem_cons_succ, List.getElem_cons_zero, Act.put, List.setIfInBounds_toArray, List.set_cons_zero, List.set_cons_succ]
      refine wpAnyL_take 7 rfl (by kernel_rfl) (by kernel_rfl) (by kernel_rfl) (by kernel_rfl) (fun _ _ _ h => h) (wanted_none rfl) (by intro w' hS'; have c0 := HC.out _ hS'; have d0 := HD.out _ hS'; go_simp <;> rfl) y0 ?_
      try simp only [List.getElem_toArray, List.getElem_cons_succ, List.getElem_cons_zero, Act.put, List.setIfInBounds_toArray, List.set_cons_zero, List.set_cons_succ]
      refine wpAnyL_take 8 rfl (by kernel_rfl) (by kernel_rfl) (by kernel_rfl) (by kernel_rfl) (fun _ _ _ h => h) (wanted_none rfl) (by intro w' hS'; have c0 := HC.out _ hS'; have d0 := HD.out _ hS'; go_simp <;> rfl) y0 ?_
      try simp only [List.getElem_toArray, List.getElem_cons_succ, List.getElem_cons_zero, Act.put, List.setIfInBounds_toArray, List.set_cons_zero, List.set_cons_succ]
      refine wpAnyL_done (by kernel_rfl) (NoPanic.normal ?_) _
      clear HC HD
      go_wp2
      go_roundg (gk - 1)
      case measure => omega
      case rel => exact ⟨i + 1, by omega, by go_num, y0⟩
    · have hlti : ¬ (i : Int) < (ps.length : Int) := by omega
      clear hF hG
      go_wp2
      go_ret
      exact ⟨rfl, hb⟩
set_option maxHeartbeats 2000000 in
theorem eqPeers_of (ps : List Mp) (lv mv : Value) (w : World) (hF : Rd peerN w lv ps) (hG : Rd peerN w mv ps) (hlen : ps.length ≤ 1000000000000) : Calls Tryz.prog 48 #[lv, mv] w fun e w' => e = .returned (.bool true) ∧ Below w.heap.size w w' := by
  obtain ⟨ao, cap, rfl, -, -⟩ := hF.shape
  obtain ⟨am, cm, rfl, -, -⟩ := hG.shape
  go_enter Tryz.func48, Tryz.ntmps48
  go_wp2
  go_loopg [13] ps.length (fun g s13 wr => ∃ i : Nat, i + g = ps.length ∧ s13 = .int .i64 (i : Int) ∧ Below w.heap.size w wr)
  case atStart => exact ⟨0, by simp, rfl, Below.refl _ _⟩
  case round =>
    obtain ⟨i, hig, rfl, hb⟩ := hrel
    by_cases hlt : i < ps.length
    · have hlti : (i : Int) < (ps.length : Int) := by omega
      have hx : ps[i]? = some ps[i] := List.getElem?_eq_getElem hlt
      obtain ⟨x, hxx⟩ : ∃ x, x = ps[i] := ⟨_, rfl⟩
      rw [← hxx] at hx
      clear hxx
      obtain ⟨b, off, rfl, c⟩ := rdpn_at hF hx
      obtain ⟨b', off', rfl, c'⟩ := rdpn_at hG hx
      obtain ⟨x1, x2, x3⟩ := x
      dsimp only at c c'
      have HC : Hid _ := c
      have HD : Hid _ := c'
      have HNE : Hid _ := fun W : World => neq_peer W x1 x2 x3
      clear hx c c' hF hG
      go_wp2
      refine wp_region_L (fun W => Below w.heap.size w W) [] (by kernel_rfl) ?_
      have y0 : Below w.heap.size w wr.drew := hb.drew
      generalize wr.drew = wd at *
      refine wpAnyL_take 0 rfl (by kernel_rfl) (by kernel_rfl) (by kernel_rfl) (by kernel_rfl) (fun _ _ _ h => h) (wanted_none rfl) (by intro w' hS'; obtain ⟨c0, c1, c2⟩ := HC.out _ hS'; obtain ⟨d0, d1, d2⟩ := HD.out _ hS'; have hq := HNE.out w'; go_simp <;> rfl) y0 ?_
      try simp only [List.getElem_toArray, List.getElem_cons_succ, List.getElem_cons_zero, Act.put, List.setIfInBounds_toArray, List.set_cons_zero, List.set_cons_succ]
      refine wpAnyL_take 1 rfl (by kernel_rfl) (by kernel_rfl) (by kernel_rfl) (by kernel_rfl) (fun _ _ _ h => h) (wanted_none rfl) (by intro w' hS'; obtain ⟨c0, c1, c2⟩ := HC.out _ hS'; obtain ⟨d0, d1, d2⟩ := HD.out _ hS'; have hq := HNE.out w'; go_simp <;> rfl) y0 ?_
      try simp only [List.getElem_toArray, List.getElem_cons_succ, List.getElem_cons_zero, Act.put, List.setIfInBounds_toArray, List.set_cons_zero, List.set_cons_succ]
      refine wpAnyL_take 2 rfl (by kernel_rfl) (by kernel_rfl) (by kernel_rfl) (by kernel_rfl) (fun _ _ _ h => h) (wanted_none rfl) (by intro w' hS'; obtain ⟨c0, c1, c2⟩ := HC.out _ hS'; obtain ⟨d0, d1, d2⟩ := HD.out _ hS'; have hq := HNE.out w'; go_simp <;> rfl) y0 ?_
      try simp only [List.getElem_toArray, List.getElem_cons_succ, List.getElem_cons_zero, Act.put, List.setIfInBounds_toArray, List.set_cons_zero, List.set_cons_succ]
      refine wpAnyL_take 3 rfl (by kernel_rfl) (by kernel_rfl) (by kernel_rfl) (by kernel_rfl) (fun _ _ _ h => h) (wanted_none rfl) (by intro w' hS'; obtain ⟨c0, c1, c2⟩ := HC.out _ hS'; obtain ⟨d0, d1, d2⟩ := HD.out _ hS'; have hq := HNE.out w'; go_simp <;> rfl) y0 ?_
      try simp only [List.getElem_toArray, List.getElem_cons_succ, List.getElem_cons_zero, Act.put, List.setIfInBounds_toArray, List.set_cons_zero, List.set_cons_succ]
      refine wpAnyL_take 4 rfl (by kernel_rfl) (by kernel_rfl) (by kernel_rfl) (by kernel_rfl) (fun _ _ _ h => h) (wanted_none rfl) (by intro w' hS'; obtain ⟨c0, c1, c2⟩ := HC.out _ hS'; obtain ⟨d0, d1, d2⟩ := HD.out _ hS'; have hq := HNE.out w'; go_simp <;> rfl) y0 ?_
      try simp only [List.getElem_toArray, List.getElem_cons_succ, List.getElem_cons_zero, Act.put, List.setIfInBounds_toArray, List.set_cons_zero, List.set_cons_succ]
      refine wpAnyL_take 5 rfl (by kernel_rfl) (by kernel_rfl) (by kernel_rfl) (by kernel_rfl) (fun _ _ _ h => h) (wanted_none rfl) (by intro w' hS'; obtain ⟨c0, c1, c2⟩ := HC.out _ hS'; obtain ⟨d0, d1, d2⟩ := HD.out _ hS'; have hq := HNE.out w'; go_simp <;> rfl) y0 ?_
      try simp only [List.getElem_toArray, List.getElem_cons_succ, List.getElem_cons_zero, Act.put, List.setIfInBounds_toArray, List.set_cons_zero, List.set_cons_succ]
      refine wpAnyL_take 6 rfl (by kernel_rfl) (by kernel_rfl) (by kernel_rfl) (by kernel_rfl) (fun _ _ _ h => h) (wanted_none rfl) (by intro w' hS'; obtain ⟨c0, c1, c2⟩ := HC.out _ hS'; obtain ⟨d0, d1, d2⟩ := HD.out _ hS'; have hq := HNE.out w'; go_simp <;> rfl) y0 ?_
      try simp only [List.getElem_toArray, List.getElem_cons_succ, List.getElem_cons_zero, Act.put, List.setIfInBounds_toArray, List.set_cons_zero, List.set_cons_succ]
      refine wpAnyL_take 7 rfl (by kernel_rfl) (by kernel_rfl) (by kernel_rfl) (by kernel_rfl) (fun _ _ _ h => h) (wanted_none rfl) (by intro w' hS'; obtain ⟨c0, c1, c2⟩ := HC.out _ hS'; obtain ⟨d0, d1, d2⟩ := HD.out _ hS'; have hq := HNE.out w'; go_simp <;> rfl) y0 ?_
      try simp only [List.getElem_toArray, List.getElem_cons_succ, List.getElem_cons_zero, Act.put, List.setIfInBounds_toArray, List.set_cons_zero, List.set_cons_succ]
      refine wpAnyL_take 8 rfl (by kernel_rfl) (by kernel_rfl) (by kernel_rfl) (by kernel_rfl) (fun _ _ _ h => h) (wanted_none rfl) (by intro w' hS'; obtain ⟨c0, c1, c2⟩ := HC.out _ hS'; obtain ⟨d0, d1, d2⟩ := HD.out _ hS'; have hq := HNE.out w'; go_simp <;> rfl) y0 ?_
      try simp only [List.getElem_toArray, List.getElem_cons_succ, List.getElem_cons_zero, Act.put, List.setIfInBounds_toArray, List.set_cons_zero, List.set_cons_succ]
      refine wpAnyL_done (by kernel_rfl) (NoPanic.normal ?_) _
      clear HC HD HNE
      go_wp2
      go_roundg (gk - 1)
      case measure => omega
      case rel => exact ⟨i + 1, by omega, by go_num, y0⟩
    · have hlti : ¬ (i : Int) < (ps.length : Int) := by omega
      clear hF hG
      go_wp2
      go_ret
      exact ⟨rfl, hb⟩
set_option maxHeartbeats 8000000 in
theorem psameR_of (n : Nat) (r : Mr) (v : Value) (w : World) (hS : RsV n w v r) (hbo : OkM r.base) (hlo : ∀ e ∈ r.log, OkM e) (hlg : r.log.length ≤ 1000000000) (hpl : r.peers.length ≤ 1000000000) (hvt : r.votes.length ≤ 1000000000) : Calls Tryz.prog 16 #[v, v] w fun e w' => e = .returned (.bool true) ∧ Below w.heap.size w w' := by
  obtain ⟨z, rfl, hz, hR⟩ := hS
  obtain ⟨r', zs, ⟨ba, bn, bc⟩, ⟨la, ln, lc⟩, ⟨va, vn, vc⟩, ⟨pa, pn, pc⟩⟩ := z
  obtain rfl : r' = r := hz
  obtain ⟨nd, tm, vo, ⟨bi, bt, bk, bd⟩, lg, cm, ro, le, el, vt, pe⟩ := r'
  dsimp only [rv] at *
  have hml : mes zs = lg := hR.2.2.1
  have hzl : zs.length ≤ 1000000000 := by have := congrArg List.length hml; rw [List.length_map] at this; omega
  have hzo := okz_of hml hlo
  obtain ⟨z1, B1, B2, hb1⟩ := two_box w (.cells #[.int .i64 nd, .int .u64 (tm : Int), .int .i64 vo, .int .u64 (bi : Int), .int .u64 (bt : Int), .int .i64 bk, .slice ba bn bc, .slice la ln lc, .int .u64 (cm : Int), .int .i64 ro, .int .i64 le, .int .i64 el, .slice va vn vc, .slice pa pn pc] 32) (.cells #[.int .i64 nd, .int .u64 (tm : Int), .int .i64 vo, .int .u64 (bi : Int), .int .u64 (bt : Int), .int .i64 bk, .slice ba bn bc, .slice la ln lc, .int .u64 (cm : Int), .int .i64 ro, .int .i64 le, .int .i64 el, .slice va vn vc, .slice pa pn pc] 32)
  have HK1 : Hid (∀ W, Below w.heap.size w W → _) := fun W hW => eqInts_of vt (.slice va vn vc) (.slice va vn vc) W (hR.2.2.2.1.rd.below hW) (hR.2.2.2.1.rd.below hW) (by omega)
  have HK2 : Hid (∀ W, Below w.heap.size w W → _) := fun W hW => eqPeers_of pe (.slice pa pn pc) (.slice pa pn pc) W (hR.2.2.2.2.rd.below hW) (hR.2.2.2.2.rd.below hW) (by omega)
  have HK3 : Hid (∀ W, Below w.heap.size w W → _) := fun W hW => psame_of (⟨bi, bt, bk, bd⟩, ba, bn, bc) zs (.slice la ln lc) W (hR.1.below hW).v (hR.2.1.below hW).v ⟨hbo.1, hbo.2.1, hbo.2.2.1⟩ (fun z hz => (hzo z hz).1) (by omega)
  have k1 := HK3.out _ hb1
  obtain ⟨-, o0, o1, o2, o3, o4, o5, o6, o7, o8, o9, o10, o11, o12, o13⟩ := r14_cells B1
  obtain ⟨-, p0, p1, p2, p3, p4, p5, p6, p7, p8, p9, p10, p11, p12, p13⟩ := r14_cells B2
  dsimp only [lgv] at k1
  clear hR hml hzl hzo hbo hlo HK3
  go_enter Tryz.func16, Tryz.ntmps16
  go_wp2_with fail
  refine k1.mono ?_
  rintro e w2 ⟨rfl, hb2⟩
  have C1 := (hb2.block w.heap.size (by omega)).trans B1
  have C2 := (hb2.block (w.heap.size + 1) (by omega)).trans B2
  have hb02 := hb1.trans (hb2.mono (by omega))
  have k2 := HK1.out w2 hb02
  have hs2 : w.heap.size + 1 < w2.heap.size := (Array.getElem?_eq_some_iff.1 C2).1
  clear k1 hb2 B1 B2 hb1 z1 HK1 o0 o1 o2 o3 o4 o5 o6 o7 o8 o9 o10 o11 o12 o13 p0 p1 p2 p3 p4 p5 p6 p7 p8 p9 p10 p11 p12 p13
  obtain ⟨-, o0, o1, o2, o3, o4, o5, o6, o7, o8, o9, o10, o11, o12, o13⟩ := r14_cells C1
  obtain ⟨-, p0, p1, p2, p3, p4, p5, p6, p7, p8, p9, p10, p11, p12, p13⟩ := r14_cells C2
  go_wp2_with fail
  refine k2.mono ?_
  rintro e w3 ⟨rfl, hb3⟩
  have D1 := (hb3.block w.heap.size (by omega)).trans C1
  have D2 := (hb3.block (w.heap.size + 1) (by omega)).trans C2
  have hb03 := hb02.trans (hb3.mono hb02.size)
  have k3 := HK2.out w3 hb03
  clear k2 hb3 C1 C2 hb02 HK2 o0 o1 o2 o3 o4 o5 o6 o7 o8 o9 o10 o11 o12 o13 p0 p1 p2 p3 p4 p5 p6 p7 p8 p9 p10 p11 p12 p13
  obtain ⟨-, o0, o1, o2, o3, o4, o5, o6, o7, o8, o9, o10, o11, o12, o13⟩ := r14_cells D1
  obtain ⟨-, p0, p1, p2, p3, p4, p5, p6, p7, p8, p9, p10, p11, p12, p13⟩ := r14_cells D2
  go_wp2_with fail
  refine k3.mono ?_
  rintro e w4 ⟨rfl, hb4⟩
  have hb04 := hb03.trans (hb4.mono hb03.size)
  clear k3 hb4 D1 D2 hb03 o0 o1 o2 o3 o4 o5 o6 o7 o8 o9 o10 o11 o12 o13 p0 p1 p2 p3 p4 p5 p6 p7 p8 p9 p10 p11 p12 p13
  go_wp2
  go_ret
  exact ⟨rfl, hb04⟩
end Go.Proofs.YtncoandnelgkeaaGreat

