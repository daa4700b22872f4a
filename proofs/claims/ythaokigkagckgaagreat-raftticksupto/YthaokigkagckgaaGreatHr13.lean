import Derived.Test.YthaokigkagckgaaGreatHr12
/- The program's agree. -/
namespace RlogMath
/-- How many of the first entries are of one term. -/
def agM : List Me → List Me → Nat
  | e :: l, f :: m => if e.term = f.term then agM l m + 1 else 0
  | _, _ => 0
theorem agM_nil_l (m : List Me) : agM [] m = 0 := by cases m <;> rfl
theorem agM_nil_r (l : List Me) : agM l [] = 0 := by cases l <;> rfl
theorem agM_at {l m : List Me} {k : Nat} {e f : Me} (he : l[k]? = some e) (hf : m[k]? = some f) : agM (l.drop k) (m.drop k) = if e.term = f.term then agM (l.drop (k + 1)) (m.drop (k + 1)) + 1 else 0 := by
  obtain ⟨h1, rfl⟩ := List.getElem?_eq_some_iff.1 he
  obtain ⟨h2, rfl⟩ := List.getElem?_eq_some_iff.1 hf
  rw [List.drop_eq_getElem_cons h1, List.drop_eq_getElem_cons h2, agM]
theorem agM_end {l m : List Me} {k : Nat} (h : ¬ (k < l.length ∧ k < m.length)) : agM (l.drop k) (m.drop k) = 0 := by
  by_cases h1 : k < l.length
  · rw [show m.drop k = [] from List.drop_eq_nil_of_le (by omega), agM_nil_r]
  · rw [show l.drop k = [] from List.drop_eq_nil_of_le (by omega), agM_nil_l]
theorem agM_le : ∀ (l m : List Me), agM l m ≤ l.length ∧ agM l m ≤ m.length
  | [], m => by rw [agM_nil_l]; simp
  | e :: l, [] => by rw [agM_nil_r]; simp
  | e :: l, f :: m => by
    have := agM_le l m
    rw [agM]
    split <;> simp <;> omega
end RlogMath
namespace Go.Proofs.YthaokigkagckgaaGreat
open Go.RowKit QuorumMath RlogMath
set_option maxRecDepth 100000
set_option linter.unusedSimpArgs false
set_option linter.unusedVariables false

set_option maxHeartbeats 4000000 in
theorem agree_of (xs ys : List Ez) (xv yv : Value) (w : World) (hX : Rd entE w xv xs) (hY : Rd entE w yv ys) (hlx : xs.length ≤ 1000000000) (hly : ys.length ≤ 1000000000) : Calls Tryz.prog 162 #[xv, yv] w fun e w' => e = .returned (.int .i64 (agM (mes xs) (mes ys) : Nat)) ∧ Below w.heap.size w w' := by
  obtain ⟨R, HR⟩ : ∃ R, Hid (R = agM (mes xs) (mes ys)) := ⟨_, rfl⟩
  rw [← HR.out]
  obtain ⟨xa, xc, rfl, -, -⟩ := hX.shape
  obtain ⟨ya, yc, rfl, -, -⟩ := hY.shape
  obtain ⟨mm, hmm⟩ : ∃ mm, mm = min xs.length ys.length := ⟨_, rfl⟩
  have hmi : min (xs.length : Int) (ys.length : Int) = (mm : Int) := by omega
  have HMM : Hid (mm ≤ xs.length ∧ mm ≤ ys.length ∧ (mm = xs.length ∨ mm = ys.length)) := by show _ ∧ _; omega
  clear hmm
  have hmb : mm ≤ 1000000000 := by have := HMM.out; omega
  go_enter Tryz.func162, Tryz.ntmps162
  go_wp2
  go_loopg [5] mm (fun gh s5 wr => ∃ k : Nat, k + gh = mm ∧ s5 = .int .i64 (k : Int) ∧ Below w.heap.size w wr ∧ Hid (R = k + agM ((mes xs).drop k) ((mes ys).drop k)))
  case atStart => exact ⟨0, by simp, rfl, Below.refl _ _, by show _ = _; rw [HR.out]; simp⟩
  case round =>
    obtain ⟨k, hkg, rfl, hb, HK⟩ := hrel
    clear HR
    by_cases hlt : k < mm
    · have hlti : (k : Int) < (mm : Int) := by omega
      have hkx : k < xs.length := by have := HMM.out; omega
      have hky : k < ys.length := by have := HMM.out; omega
      have hzx : xs[k]? = some xs[k] := List.getElem?_eq_getElem hkx
      have hzy : ys[k]? = some ys[k] := List.getElem?_eq_getElem hky
      obtain ⟨x, hxx⟩ : ∃ x, x = xs[k] := ⟨_, rfl⟩
      obtain ⟨y, hyy⟩ : ∃ y, y = ys[k] := ⟨_, rfl⟩
      rw [← hxx] at hzx
      rw [← hyy] at hzy
      clear hxx hyy
      obtain ⟨p, off, rfl, c⟩ := rde_at hX hzx
      obtain ⟨q, qoff, rfl, d⟩ := rde_at hY hzy
      have hK := HK.out
      rw [agM_at (mes_at hzx) (mes_at hzy)] at hK
      have cW : ∀ n, (wr.drewN n).cell? ⟨p, off + k * 4 + 1, none⟩ = some (.int .u64 (x.1.term : Int)) := fun n => (c _ (below_dN hb n)).2.1
      have dW : ∀ n, (wr.drewN n).cell? ⟨q, qoff + k * 4 + 1, none⟩ = some (.int .u64 (y.1.term : Int)) := fun n => (d _ (below_dN hb n)).2.1
      have c1 := (c _ hb).2.1
      have d1 := (d _ hb).2.1
      obtain ⟨⟨ix, tm, kd, dt⟩, sl⟩ := x
      obtain ⟨⟨ix2, tm2, kd2, dt2⟩, sl2⟩ := y
      dsimp only at cW dW hK c1 d1
      have hkxi : (k : Int) < (xs.length : Int) := by omega
      have hkyi : (k : Int) < (ys.length : Int) := by omega
      by_cases ht : tm = tm2
      · have E : Hid (R = k + 1 + agM ((mes xs).drop (k + 1)) ((mes ys).drop (k + 1))) := by show _ = _; rw [hK, if_pos ht]; omega
        subst ht
        clear hK HK hzx hzy c d hX hY
        go_wp2
        go_quiet (fail)
        go_wp2
        go_roundg (gk - 1)
        case measure => omega
        case rel => exact ⟨k + 1, by omega, by go_num, below_dN hb nq, E⟩
      · have E : Hid (R = k) := by show _ = _; rw [hK, if_neg ht]; omega
        have htb : ((tm : Int) == (tm2 : Int)) = false := by simp; omega
        have hti : ¬ (tm : Int) = (tm2 : Int) := by omega
        clear hK HK hzx hzy c d hX hY ht
        go_wp2
        go_quiet (fail)
        go_wp2
        go_ret
        exact ⟨by rw [E.out]; rfl, below_dN hb nq⟩
    · have hlti : ¬ (k : Int) < (mm : Int) := by omega
      have hltd : decide ((k : Int) < (mm : Int)) = false := by simp; omega
      have E : Hid (R = k) := by
        show _ = _
        have := HMM.out
        rw [HK.out, agM_end (by simp [mes]; omega), Nat.add_zero]
      clear HK hX hY HMM
      go_wp2
      go_big_quiet (fail)
      go_wp2
      go_ret
      exact ⟨by rw [E.out]; rfl, below_dN hb nq⟩

/-- The end of a slice, whatever it lies on. -/
theorem Rd.back' {w : World} {ao : Option Addr} {n cap : Nat} {xs : List Ez} (h : Rd entE w (.slice ao n cap) xs) {k : Nat} (hk : k ≤ xs.length) : Rd entE w (.slice (if cap = k then ao else ao.map (fun x => x.add (k * 4))) (n - k) (cap - k)) (xs.drop k) := by
  cases ao with
  | none =>
    obtain ⟨ao', cap', e, h0, h1, h2⟩ := h
    cases e
    have := h1 rfl
    subst this
    obtain rfl : xs = [] := List.eq_nil_of_length_eq_zero (by omega)
    obtain rfl : k = 0 := by simpa using hk
    exact ⟨none, 0, by simp, by simp, fun _ => rfl, fun i x j u hx => by simp at hx⟩
  | some ad =>
    by_cases hn : xs.length = 0
    · obtain rfl : xs = [] := List.eq_nil_of_length_eq_zero hn
      obtain rfl : k = 0 := by simpa using hk
      obtain ⟨ao', cap', e, h0, h1, h2⟩ := h
      cases e
      exact ⟨if cap = 0 then some ad else (some ad).map (fun x => x.add (0 * 4)), cap - 0, rfl, by simp, (by split <;> simp), fun i x j u hx => by simp at hx⟩
    · obtain ⟨b, off, e, -⟩ := rde_at h (List.getElem?_eq_getElem (show 0 < xs.length by omega))
      obtain rfl := Option.some.inj e
      have h9 := Rd.back h hk
      rw [show (Option.map (fun x => Addr.add x (k * 4)) (some (⟨b, off, none⟩ : Addr))) = some ⟨b, off + k * 4, none⟩ by simp [Addr.add_lit]]
      exact h9
end Go.Proofs.YthaokigkagckgaaGreat

/- Merging: plain mathematics. -/
namespace RlogMath
open QuorumMath
/-- A log with a leader's entries: a code, a log, an index. -/
def mergeM (b : Me) (l : List Me) (x t : Nat) (es : List Me) : Int × Me × List Me × Nat :=
  if mayB b l && behB x t es then
    if x < b.idx then (7, zeroMe, [], 0)
    else if termM b l x = some t then
      if agM (l.drop (x - b.idx)) es = es.length then (0, b, l, x + es.length)
      else if 4096 < x - b.idx + es.length then (2, zeroMe, [], 0)
      else (0, b, l.take (x - b.idx + agM (l.drop (x - b.idx)) es) ++ es.drop (agM (l.drop (x - b.idx)) es), x + es.length)
    else (12, zeroMe, [], 0)
  else (1, zeroMe, [], 0)
theorem mrg_no {b : Me} {l : List Me} {x t : Nat} {es : List Me} (h : mayB b l = false) : mergeM b l x t es = (1, zeroMe, [], 0) := by unfold mergeM; rw [h]; rfl
theorem mrg_bad {b : Me} {l : List Me} {x t : Nat} {es : List Me} (h : behB x t es = false) : mergeM b l x t es = (1, zeroMe, [], 0) := by unfold mergeM; rw [h, Bool.and_false]; rfl
theorem mrg_old {b : Me} {l : List Me} {x t : Nat} {es : List Me} (h : mayB b l = true) (h2 : behB x t es = true) (h3 : x < b.idx) : mergeM b l x t es = (7, zeroMe, [], 0) := by unfold mergeM; rw [h, h2, if_pos (by rfl), if_pos h3]
theorem mrg_gap {b : Me} {l : List Me} {x t : Nat} {es : List Me} (h : mayB b l = true) (h2 : behB x t es = true) (h3 : ¬ x < b.idx) (h4 : ¬ termM b l x = some t) : mergeM b l x t es = (12, zeroMe, [], 0) := by unfold mergeM; rw [h, h2, if_pos (by rfl), if_neg h3, if_neg h4]
theorem mrg_same {b : Me} {l : List Me} {x t : Nat} {es : List Me} (h : mayB b l = true) (h2 : behB x t es = true) (h3 : ¬ x < b.idx) (h4 : termM b l x = some t) (h5 : agM (l.drop (x - b.idx)) es = es.length) : mergeM b l x t es = (0, b, l, x + es.length) := by unfold mergeM; rw [h, h2, if_pos (by rfl), if_neg h3, if_pos h4, if_pos h5]
theorem mrg_full {b : Me} {l : List Me} {x t : Nat} {es : List Me} (h : mayB b l = true) (h2 : behB x t es = true) (h3 : ¬ x < b.idx) (h4 : termM b l x = some t) (h5 : ¬ agM (l.drop (x - b.idx)) es = es.length) (h6 : 4096 < x - b.idx + es.length) : mergeM b l x t es = (2, zeroMe, [], 0) := by unfold mergeM; rw [h, h2, if_pos (by rfl), if_neg h3, if_pos h4, if_neg h5, if_pos h6]
theorem mrg_ok {b : Me} {l : List Me} {x t : Nat} {es : List Me} (h : mayB b l = true) (h2 : behB x t es = true) (h3 : ¬ x < b.idx) (h4 : termM b l x = some t) (h5 : ¬ agM (l.drop (x - b.idx)) es = es.length) (h6 : ¬ 4096 < x - b.idx + es.length) : mergeM b l x t es = (0, b, l.take (x - b.idx + agM (l.drop (x - b.idx)) es) ++ es.drop (agM (l.drop (x - b.idx)) es), x + es.length) := by unfold mergeM; rw [h, h2, if_pos (by rfl), if_neg h3, if_pos h4, if_neg h5, if_neg h6]
theorem termF_in {x t : Nat} : ∀ {l : List Me}, termF l x = some t → ∃ (k : Nat) (e : Me), l[k]? = some e ∧ e.idx = x ∧ e.term = t
  | [], h => by simp [termF] at h
  | a :: l, h => by
    rw [termF] at h
    split at h
    · exact ⟨0, a, rfl, by assumption, Option.some.inj h⟩
    · obtain ⟨k, e, h1, h2, h3⟩ := termF_in h
      exact ⟨k + 1, e, h1, h2, h3⟩
/-- Where there is a term, there is an entry, or the base. -/
theorem term_place {b : Me} {l : List Me} {x t : Nat} (h : mayB b l = true) (ht : termM b l x = some t) : b.idx ≤ x ∧ x - b.idx ≤ l.length := by
  unfold termM at ht
  split at ht
  · omega
  · obtain ⟨k, e, h1, h2, h3⟩ := termF_in ht
    have h4 := may_num h h1
    have h5 := (List.getElem?_eq_some_iff.1 h1).1
    omega
end RlogMath

/- The program's Merge. -/
namespace Go.Proofs.YthaokigkagckgaaGreat
open Go.RowKit QuorumMath RlogMath
set_option maxRecDepth 100000
set_option linter.unusedSimpArgs false
set_option linter.unusedVariables false

/-- What Merge tells. -/
def Lg3T (r : Int × Me × List Me × Nat) (e : Ending) (w' : World) : Prop := ∃ v, e = .returned (.tuple #[v, .int .u64 (r.2.2.2 : Int), .int .i64 r.1]) ∧ LogM w' v r.2.1 r.2.2.1
theorem lg3_none {r : Int × Me × List Me × Nat} {c : Int} (w : World) (h : r = (c, zeroMe, [], 0)) : Lg3T r (.returned (.tuple #[.agg #[.int .u64 0, .int .u64 0, .int .i64 0, .slice none 0 0, .slice none 0 0], .int .u64 0, .int .i64 c])) w := by
  subst h
  exact ⟨_, rfl, log_zero w⟩
/-- The same, of copies. -/
def Lg3C (r : Int × Me × List Me × Nat) (e : Ending) (w' : World) : Prop := ∃ v, e = .returned (.tuple #[v, .int .u64 (r.2.2.2 : Int), .int .i64 r.1]) ∧ LogC 0 w' v r.2.1 r.2.2.1
theorem lg3c_none {r : Int × Me × List Me × Nat} {c : Int} (w : World) (h : r = (c, zeroMe, [], 0)) : Lg3C r (.returned (.tuple #[.agg #[.int .u64 0, .int .u64 0, .int .i64 0, .slice none 0 0, .slice none 0 0], .int .u64 0, .int .i64 c])) w := by
  subst h
  exact ⟨_, rfl, logC_zero 0 w⟩
theorem Lg3C.lg {r : Int × Me × List Me × Nat} {e : Ending} {w' : World} (h : Lg3C r e w') : Lg3T r e w' := by
  obtain ⟨v, h1, h2⟩ := h
  exact ⟨v, h1, h2.logM⟩
theorem EntsV.front {w : World} {ao : Option Addr} {n cap : Nat} {xs : List Ez} (h : EntsV w (.slice ao n cap) xs) {k : Nat} (hk : k ≤ xs.length) : EntsV w (.slice ao k cap) (xs.take k) := ⟨h.1.front hk, fun z hz => h.2 z (List.mem_of_mem_take hz)⟩
theorem EntsV.back {w : World} {ao : Option Addr} {n cap : Nat} {xs : List Ez} (h : EntsV w (.slice ao n cap) xs) {k : Nat} (hk : k ≤ xs.length) : EntsV w (.slice (if cap = k then ao else ao.map (fun x => x.add (k * 4))) (n - k) (cap - k)) (xs.drop k) := ⟨h.1.back' hk, fun z hz => h.2 z (List.mem_of_mem_drop hz)⟩

set_option maxHeartbeats 16000000 in
theorem pmerge_c (b : Ez) (zs : List Ez) (lv : Value) (x t : Nat) (ys : List Ez) (yv : Value) (w : World) (hD : DataV w b) (hL : EntsV w lv zs) (hY : EntsV w yv ys) (hbo : EzOk b) (hok : ∀ z ∈ zs, EzOk z) (hoy : ∀ z ∈ ys, EzOk z) (hx : x < 18446744073709551616) (hlen : zs.length ≤ 2000000) (hleny : ys.length ≤ 2000000) (hdl : b.1.data.length ≤ 1000000000) (hdz : ∀ z ∈ zs, z.1.data.length ≤ 1000000000) (hdy : ∀ z ∈ ys, z.1.data.length ≤ 1000000000) : Calls Tryz.prog 149 #[lgv b lv, .int .u64 (x : Int), .int .u64 (t : Int), yv] w fun e w' => Lg3C (mergeM b.1 (mes zs) x t (mes ys)) e w' ∧ Below w.heap.size w w' := by
  obtain ⟨R, HR⟩ : ∃ R, Hid (R = mergeM b.1 (mes zs) x t (mes ys)) := ⟨_, rfl⟩
  rw [← HR.out]
  obtain ⟨hs, hb0, cl⟩ := lg_box w b lv
  have kmH : Hid (∀ W, Below w.heap.size w W → _) := fun W hW => pcheck_of b zs lv W (hD.below hW) (hL.below hW) hbo hok (by omega) hdl
  have kfH : Hid (∀ W, Below w.heap.size w W → _) := fun W hW => follow_of x t ys yv W (hY.below hW) hx hoy (by omega)
  have ktH : Hid (mayB b.1 (mes zs) = true → ∀ W, Below w.heap.size w W → _) := fun hm W hW => pterm_of b zs lv x W (hL.below hW) (by omega) hm
  obtain ⟨la, lc, rfl, hlc, -⟩ := hL.1.shape
  obtain ⟨ya, yc, rfl, hyc, -⟩ := hY.1.shape
  have kaH : Hid (∀ h : Nat, h ≤ zs.length → ∀ W, Below w.heap.size w W → _) := fun h hh W hW => agree_of (zs.drop h) ys (.slice (if lc = h then la else la.map (fun x => x.add (h * 4))) (zs.length - h) (lc - h)) (.slice ya ys.length yc) W ((hL.below hW).back hh).1 (hY.below hW).1 (by rw [List.length_drop]; omega) (by omega)
  have kg1H : Hid (∀ W, Below w.heap.size w W → ∀ h, W.heap[h]? = some (.cells #[.slice la zs.length lc] 26 (0, 0)) → Calls Tryz.prog 109 #[ev b, .slice (some ⟨h, 0, none⟩) 1 1] W fun e w' => ∃ v, e = .returned v ∧ LogC W.heap.size w' v b.1 (mes zs) ∧ Below W.heap.size W w') := fun W hW h hh => by
    have k := logOf_of b [((la, zs.length, lc), zs)] (.slice (some ⟨h, 0, none⟩) 1 1) W (hD.below hW) (ls_made1 hh (hL.below hW)) hdl (by simp) (by simpa using hlen) (by
      intro p hp z hz
      simp only [List.mem_cons, List.not_mem_nil, or_false] at hp
      subst hp
      exact hdz z hz) (by simp [flatL]; omega)
    have e : mes (flatL [((la, zs.length, lc), zs)]) = mes zs := by simp [flatL, mes]
    rw [e] at k
    exact k
  have kg2H : Hid (∀ n m : Nat, n ≤ zs.length → m ≤ ys.length → ∀ W, Below w.heap.size w W → ∀ h, W.heap[h]? = some (.cells #[.slice la n lc, .slice (if yc = m then ya else ya.map (fun x => x.add (m * 4))) (ys.length - m) (yc - m)] 26 (0, 0)) → Calls Tryz.prog 109 #[ev b, .slice (some ⟨h, 0, none⟩) 2 2] W fun e w' => ∃ v, e = .returned v ∧ LogC W.heap.size w' v b.1 ((mes zs).take n ++ (mes ys).drop m) ∧ Below W.heap.size W w') := fun n m hn hm W hW h hh => by
    have k := logOf_of b [((la, n, lc), zs.take n), (((if yc = m then ya else ya.map (fun x => x.add (m * 4))), ys.length - m, yc - m), ys.drop m)] (.slice (some ⟨h, 0, none⟩) 2 2) W (hD.below hW) (ls_made hh ((hL.below hW).front hn) ((hY.below hW).back hm)) hdl (by simp) (by
      intro p hp
      simp only [List.mem_cons, List.not_mem_nil, or_false] at hp
      rcases hp with rfl | rfl
      · simp; omega
      · simp; omega) (by
      intro p hp z hz
      simp only [List.mem_cons, List.not_mem_nil, or_false] at hp
      rcases hp with rfl | rfl
      · exact hdz z (List.mem_of_mem_take hz)
      · exact hdy z (List.mem_of_mem_drop hz)) (by simp [flatL]; omega)
    have e : mes (flatL [((la, n, lc), zs.take n), (((if yc = m then ya else ya.map (fun x => x.add (m * 4))), ys.length - m, yc - m), ys.drop m)]) = (mes zs).take n ++ (mes ys).drop m := by simp [flatL, mes]
    rw [e] at k
    exact k
  obtain ⟨q1, q2, q3⟩ := one_box (w.alloc (lgc b (.slice la zs.length lc))) (.cells #[.int .u64 0, .int .u64 0, .int .i64 0, .slice none 0 0, .slice none 0 0] 28)
  rw [hs] at q1 q2 q3
  have hb2 := hb0.trans (q3.mono (Nat.le_succ _))
  have km := kmH.out _ hb2
  have HN : Hid (mayB b.1 (mes zs) = false → R = _) := fun h => HR.out.trans (mrg_no h)
  have HBd : Hid (behB x t (mes ys) = false → R = _) := fun h => HR.out.trans (mrg_bad h)
  have HO : Hid (mayB b.1 (mes zs) = true → behB x t (mes ys) = true → x < b.1.idx → R = _) := fun h h2 h3 => HR.out.trans (mrg_old h h2 h3)
  have HG : Hid (mayB b.1 (mes zs) = true → behB x t (mes ys) = true → ¬ x < b.1.idx → ¬ termM b.1 (mes zs) x = some t → R = _) := fun h h2 h3 h4 => HR.out.trans (mrg_gap h h2 h3 h4)
  have HSm : Hid (mayB b.1 (mes zs) = true → behB x t (mes ys) = true → ¬ x < b.1.idx → termM b.1 (mes zs) x = some t → agM ((mes zs).drop (x - b.1.idx)) (mes ys) = (mes ys).length → R = _) := fun h h2 h3 h4 h5 => HR.out.trans (mrg_same h h2 h3 h4 h5)
  have HFu : Hid (mayB b.1 (mes zs) = true → behB x t (mes ys) = true → ¬ x < b.1.idx → termM b.1 (mes zs) x = some t → ¬ agM ((mes zs).drop (x - b.1.idx)) (mes ys) = (mes ys).length → 4096 < x - b.1.idx + (mes ys).length → R = _) := fun h h2 h3 h4 h5 h6 => HR.out.trans (mrg_full h h2 h3 h4 h5 h6)
  have HY : Hid (mayB b.1 (mes zs) = true → behB x t (mes ys) = true → ¬ x < b.1.idx → termM b.1 (mes zs) x = some t → ¬ agM ((mes zs).drop (x - b.1.idx)) (mes ys) = (mes ys).length → ¬ 4096 < x - b.1.idx + (mes ys).length → R = _) := fun h h2 h3 h4 h5 h6 => HR.out.trans (mrg_ok h h2 h3 h4 h5 h6)
  have HPL : Hid (mayB b.1 (mes zs) = true → termM b.1 (mes zs) x = some t → b.1.idx ≤ x ∧ x - b.1.idx ≤ zs.length ∧ x ≤ 4611686018427392000 ∧ zs.length ≤ 4096) := fun h h2 => by
    have h3 := term_place h h2
    have h4 := may_last h
    have hml : (mes zs).length = zs.length := by simp [mes]
    rw [hml] at h3 h4
    omega
  have HAG : Hid (∀ h, agM (mes (zs.drop h)) (mes ys) = agM ((mes zs).drop h) (mes ys) ∧ agM ((mes zs).drop h) (mes ys) ≤ zs.length - h ∧ agM ((mes zs).drop h) (mes ys) ≤ ys.length) := fun h => by
    have h1 := agM_le ((mes zs).drop h) (mes ys)
    refine ⟨by simp [mes], ?_⟩
    simpa [mes] using h1
  have hml : (mes ys).length = ys.length := by simp [mes]
  rw [hml] at HSm HFu HY
  clear hD hL hY hok hoy hbo HR kmH hml hdz hdy hdl
  generalize mayB b.1 (mes zs) = B at *
  generalize behB x t (mes ys) = BY at *
  generalize termM b.1 (mes zs) x = TM at *
  obtain ⟨⟨ix, tm, kd, dt⟩, sa, sn, sc⟩ := b
  dsimp only [lgc, lgv, ev] at *
  obtain ⟨c0, c1, c2, c3, c4⟩ := cl _ q3
  go_enter Tryz.func149, Tryz.ntmps149
  go_wp2_with fail
  refine km.mono ?_
  rintro e w2 ⟨rfl, hb21⟩
  rw [q1] at hb21
  have q22 := (hb21.block (w.heap.size + 1) (by omega)).trans q2
  have hA2 := q3.trans (hb21.mono (by omega))
  have hbw2 := hb2.trans (hb21.mono (by omega))
  obtain ⟨c0, c1, c2, c3, c4⟩ := cl w2 hA2
  have hsz2 : w.heap.size + 2 ≤ w2.heap.size := by have := hb21.size; omega
  clear km q1 q2 q3 hb2 hb21
  cases B with
  | false =>
    have E : Hid (_ = _) := HN.out rfl
    clear HN HBd HO HG HSm HFu HY HPL HAG kfH ktH kaH kg1H kg2H cl
    dsimp only [codeB]
    obtain ⟨⟨f0, f1, f2, f3, f4⟩, o0, o1, o2, o3, o4⟩ := lg_cells q22
    go_wp2
    (try simp only [Exit.inBlock, Exit.then])
    refine bodyPost_ret (results_lg3 rfl _ _ (w.heap.size + 1) _ _ _ _ _ rfl (lg_set q22 _ _ _ _ _)) rfl ?_
    exact ⟨lg3c_none _ E.out, lg_set_below hbw2 (by omega) _ _ _ _ _⟩
  | true =>
    have kt := ktH.out rfl
    have kf := kfH.out w2 hbw2
    dsimp only [codeB]
    have HCL : Hid (∀ W, Below (w.heap.size + 1) w2 W → _) := fun W hW => cl W (hA2.trans hW)
    have ktH2 : Hid _ := kt
    clear HN kfH ktH kt cl hA2
    go_wp2_with fail
    refine kf.mono ?_
    rintro e w3 ⟨rfl, hb32⟩
    have q33 := (hb32.block (w.heap.size + 1) (by omega)).trans q22
    have hbw3 := hbw2.trans (hb32.mono hbw2.size)
    have hA3 : Below (w.heap.size + 1) w2 w3 := hb32.mono (by omega)
    have hsz3 : w.heap.size + 2 ≤ w3.heap.size := by have := hb32.size; omega
    obtain ⟨c0, c1, c2, c3, c4⟩ := HCL.out w3 hA3
    clear kf hb32 hbw2 q22
    cases BY with
    | false =>
      have E : Hid (_ = _) := HBd.out rfl
      clear HBd HO HG HSm HFu HY HPL HAG ktH2 kaH kg1H kg2H HCL
      obtain ⟨⟨f0, f1, f2, f3, f4⟩, o0, o1, o2, o3, o4⟩ := lg_cells q33
      go_wp2
      (try simp only [Exit.inBlock, Exit.then])
      refine bodyPost_ret (results_lg3 rfl _ _ (w.heap.size + 1) _ _ _ _ _ rfl (lg_set q33 _ _ _ _ _)) rfl ?_
      exact ⟨lg3c_none _ E.out, lg_set_below hbw3 (by omega) _ _ _ _ _⟩
    | true =>
      by_cases hold : x < ix
      · have holdi : (x : Int) < (ix : Int) := by omega
        have E : Hid (_ = _) := HO.out (by trivial) (by trivial) hold
        clear HBd HO HG HSm HFu HY HPL HAG ktH2 kaH kg1H kg2H HCL
        obtain ⟨⟨f0, f1, f2, f3, f4⟩, o0, o1, o2, o3, o4⟩ := lg_cells q33
        go_wp2
        (try simp only [Exit.inBlock, Exit.then])
        refine bodyPost_ret (results_lg3 rfl _ _ (w.heap.size + 1) _ _ _ _ _ rfl (lg_set q33 _ _ _ _ _)) rfl ?_
        exact ⟨lg3c_none _ E.out, lg_set_below hbw3 (by omega) _ _ _ _ _⟩
      · have holdi : ¬ (x : Int) < (ix : Int) := by omega
        have kt := ktH2.out w3 hbw3
        clear ktH2 HO HBd
        go_wp2_with fail
        refine kt.mono ?_
        rintro e w4 ⟨rfl, hb43⟩
        have q44 := (hb43.block (w.heap.size + 1) (by omega)).trans q33
        have hbw4 := hbw3.trans (hb43.mono hbw3.size)
        have hA4 : Below (w.heap.size + 1) w2 w4 := hA3.trans (hb43.mono (by omega))
        have hsz4 : w.heap.size + 2 ≤ w4.heap.size := by have := hb43.size; omega
        obtain ⟨c0, c1, c2, c3, c4⟩ := HCL.out w4 hA4
        clear kt hb43 hbw3 q33 hA3
        by_cases htm : TM = some t
        · subst htm
          obtain ⟨p1, p2, p3, p4⟩ := HPL.out (by trivial) rfl
          obtain ⟨h, hh⟩ : ∃ h, h = x - ix := ⟨_, rfl⟩
          have HSm2 : Hid (_ → _ = _) := HSm.out (by trivial) (by trivial) hold rfl
          have HFu2 : Hid (_ → _ → _ = _) := HFu.out (by trivial) (by trivial) hold rfl
          have HY2 : Hid (_ → _ → _ = _) := HY.out (by trivial) (by trivial) hold rfl
          rw [← hh] at HSm2 HFu2 HY2
          obtain ⟨a1, a2, a3⟩ := HAG.out h
          have ka := kaH.out h (by omega) w4 hbw4
          rw [a1] at ka
          have hxs : IntKind.u64.wrap ((x : Int) - (ix : Int)) = (h : Int) := by rw [IntWalk.u64_in _ (by omega)]; omega
          have hhi : (h : Int) ≤ (zs.length : Int) := by omega
          obtain ⟨x9, hx9⟩ : ∃ x9, x9 = x + ys.length := ⟨_, rfl⟩
          have hxa : IntKind.u64.wrap ((x : Int) + (ys.length : Int)) = (x9 : Int) := by rw [IntWalk.u64_in _ (by omega)]; omega
          have hyu : IntKind.u64.wrap (ys.length : Int) = (ys.length : Int) := IntWalk.u64_in _ (by omega)
          have hhw : IntKind.i64.wrap (h : Int) = (h : Int) := IntWalk.i64_in _ (by omega)
          rw [← hx9] at HSm2 HY2
          have kg2H2 : Hid _ := fun (m : Nat) (hm : m ≤ ys.length) (hn : h + m ≤ zs.length) => kg2H.out (h + m) m hn hm
          have hh4 : h ≤ 4096 := by omega
          clear HSm HFu HY HG HPL HAG hh hx9 p1 p3 hold kaH kg2H a1
          generalize agM (List.drop h (mes zs)) (mes ys) = n at *
          obtain ⟨AX, hAX⟩ : ∃ AX, (if lc = h then la else la.map (fun x => x.add (h * 4))) = AX := ⟨_, rfl⟩
          rw [hAX] at ka
          go_wp2_with fail
          refine ka.mono ?_
          rintro e w6 ⟨rfl, hb64⟩
          have q66 := (hb64.block (w.heap.size + 1) (by omega)).trans q44
          have hbw6 := hbw4.trans (hb64.mono hbw4.size)
          have hA6 : Below (w.heap.size + 1) w2 w6 := hA4.trans (hb64.mono (by omega))
          have hsz6 : w.heap.size + 2 ≤ w6.heap.size := by have := hb64.size; omega
          obtain ⟨c0, c1, c2, c3, c4⟩ := HCL.out w6 hA6
          clear ka hb64 hbw4 q44 hA4 hAX
          by_cases hn : n = ys.length
          · have E : Hid (_ = _) := HSm2.out hn
            have hni : ((n : Int) == (ys.length : Int)) = true := by simp; omega
            obtain ⟨y1, y2, y3⟩ := one_box w6 (.cells #[.slice la zs.length lc] 26)
            have hbw7 := hbw6.trans (y3.mono hbw6.size)
            have q77 := (y3.block (w.heap.size + 1) (by omega)).trans q66
            have kg := kg1H.out _ hbw7 w6.heap.size y2
            rw [y1] at kg
            have hni2 : (n : Int) = (ys.length : Int) := by omega
            clear HSm2 HFu2 HY2 kg1H kg2H2 HCL y1 y2 y3 q66 hn a2 a3
            go_wp2_with fail
            refine kg.mono ?_
            rintro e w8 ⟨v8, rfl, hC8, hb87⟩
            have q88 := (hb87.block (w.heap.size + 1) (by omega)).trans q77
            have hbw8 := hbw7.trans (hb87.mono (by omega))
            obtain ⟨⟨f0, f1, f2, f3, f4⟩, o0, o1, o2, o3, o4⟩ := lg_cells q88
            obtain ⟨⟨s8a, s8n, s8c⟩, cur8, st8, hv8, -, hCC⟩ := id hC8
            obtain ⟨ta8, tc8, hst8, -⟩ := hCC.1.1.shape
            generalize cur8.length = n8 at hst8
            dsimp only [lgv] at hv8
            have hfin : Hid _ := hC8.far5 q88 (by omega) (.int .u64 (ix : Int)) (.int .u64 (tm : Int)) (.int .i64 kd) (.slice s8a s8n s8c) st8
            subst hst8
            subst hv8
            clear kg hC8 hCC q77 hbw7 hb87
            go_wp2
            (try simp only [Exit.inBlock, Exit.then])
            refine bodyPost_ret (results_lg3 rfl _ _ (w.heap.size + 1) _ _ _ _ _ rfl (lg_set q88 _ _ _ _ _)) rfl ?_
            refine ⟨?_, lg_set_below hbw8 (by omega) _ _ _ _ _⟩
            rw [E.out]
            exact ⟨_, rfl, LogC.mono hfin.out (Nat.zero_le _)⟩
          · have hni : ((n : Int) == (ys.length : Int)) = false := by simp; omega
            have hni2 : ¬ (n : Int) = (ys.length : Int) := by omega
            obtain ⟨hy, hhy⟩ : ∃ hy, hy = h + ys.length := ⟨_, rfl⟩
            have hwy : IntKind.i64.wrap ((h : Int) + (ys.length : Int)) = (hy : Int) := by rw [IntWalk.i64_in _ (by omega)]; omega
            by_cases hfu : 4096 < hy
            · have E : Hid (_ = _) := HFu2.out hn (by omega)
              have hfi : (4096 : Int) < (hy : Int) := by omega
              clear HSm2 HFu2 HY2 kg1H kg2H2 HCL hhy hn
              obtain ⟨⟨f0, f1, f2, f3, f4⟩, o0, o1, o2, o3, o4⟩ := lg_cells q66
              go_wp2
              (try simp only [Exit.inBlock, Exit.then])
              refine bodyPost_ret (results_lg3 rfl _ _ (w.heap.size + 1) _ _ _ _ _ rfl (lg_set q66 _ _ _ _ _)) rfl ?_
              exact ⟨lg3c_none _ E.out, lg_set_below hbw6 (by omega) _ _ _ _ _⟩
            · have E : Hid (_ = _) := HY2.out hn (by omega)
              have hfi : ¬ (4096 : Int) < (hy : Int) := by omega
              obtain ⟨nn, hnn⟩ : ∃ nn, nn = h + n := ⟨_, rfl⟩
              have hwn : IntKind.i64.wrap ((h : Int) + (n : Int)) = (nn : Int) := by rw [IntWalk.i64_in _ (by omega)]; omega
              have hnc : (nn : Int) ≤ (lc : Int) := by omega
              have hny : (n : Int) ≤ (ys.length : Int) := by omega
              have kg2 : Hid (∀ V, Below w.heap.size w V → ∀ W, Below V.heap.size V W → ∀ h, W.heap[h]? = some (.cells #[.slice la nn lc, .slice (if yc = n then ya else ya.map (fun x => x.add (n * 4))) (ys.length - n) (yc - n)] 26 (0, 0)) → Calls Tryz.prog 109 #[.agg #[.int .u64 (ix : Int), .int .u64 (tm : Int), .int .i64 kd, .slice sa sn sc], .slice (some ⟨h, 0, none⟩) 2 2] W fun e w' => ∃ v, e = .returned v ∧ LogC W.heap.size w' v ⟨ix, tm, kd, dt⟩ ((mes zs).take nn ++ (mes ys).drop n) ∧ Below W.heap.size W w') := fun V hV W hW g hg => by subst hnn; exact kg2H2.out n a3 (by omega) W (hV.trans (hW.mono hV.size)) g hg
              rw [← hnn] at E
              obtain ⟨AY, hAY⟩ : ∃ AY, (if yc = n then ya else ya.map (fun x => x.add (n * 4))) = AY := ⟨_, rfl⟩
              rw [hAY] at kg2
              have HCL6 : Hid (∀ W, Below (w.heap.size + 1) w6 W → _) := fun W hW => HCL.out W (hA6.trans hW)
              clear HCL
              have HCL := HCL6
              have hycb : ys.length ≤ yc := hyc
              clear HCL6 HSm2 HFu2 HY2 kg1H kg2H2 hhy hnn hn hfu a2 hh4
              go_wp2
              refine wp_region_L (fun W => Below (w.heap.size + 1) w6 W) [] (by kernel_rfl) ?_
              have hbd : Below (w.heap.size + 1) w6 w6.drew := (Below.refl _ w6).drew
              have hszd : w.heap.size + 2 ≤ w6.drew.heap.size := hsz6
              have q6d : w6.drew.heap[w.heap.size + 1]? = _ := q66
              have hbwd := hbw6.drew
              have kgF := kg2.out w6.drew hbwd
              generalize w6.drew = wd at *
              obtain ⟨y1, y2, y3⟩ := one_box wd (.cells #[.slice la nn lc, .slice AY (ys.length - n) (yc - n)] 26)
              have kg := kgF _ y3 wd.heap.size y2
              have q77 := (y3.block (w.heap.size + 1) (by omega)).trans q6d
              rw [y1] at kg
              have hs8 : wd.heap.size + 1 ≤ wd.heap.size + 1 := Nat.le_refl _
              clear y1 y2 y3 kgF kg2 q6d q66
              have yS : (fun W => Below (w.heap.size + 1) w6 W) wd := hbd
              refine wpAnyL_take 0 rfl (by kernel_rfl) (by kernel_rfl) (by kernel_rfl) (by kernel_rfl) (fun _ _ _ h => h) (by kernel_rfl) (by intro w' hS'; have hz := hS'; obtain ⟨c0, c1, c2, c3, c4⟩ := HCL.out _ hz; go_simp <;> rfl) yS ?_
              try simp only [List.getElem_toArray, List.getElem_cons_succ, List.getElem_cons_zero, Act.put, List.setIfInBounds_toArray, List.set_cons_zero, List.set_cons_succ]
              refine wpAnyL_take 1 rfl (by kernel_rfl) (by kernel_rfl) (by kernel_rfl) (by kernel_rfl) (fun _ _ _ h => h) (by kernel_rfl) (by intro w' hS'; have hz := hS'; obtain ⟨c0, c1, c2, c3, c4⟩ := HCL.out _ hz; go_simp <;> rfl) yS ?_
              try simp only [List.getElem_toArray, List.getElem_cons_succ, List.getElem_cons_zero, Act.put, List.setIfInBounds_toArray, List.set_cons_zero, List.set_cons_succ]
              refine wpAnyL_take 2 rfl (by kernel_rfl) (by kernel_rfl) (by kernel_rfl) (by kernel_rfl) (fun _ _ _ h => h) (by kernel_rfl) (by intro w' hS'; have hz := hS'; obtain ⟨c0, c1, c2, c3, c4⟩ := HCL.out _ hz; go_simp <;> rfl) yS ?_
              try simp only [List.getElem_toArray, List.getElem_cons_succ, List.getElem_cons_zero, Act.put, List.setIfInBounds_toArray, List.set_cons_zero, List.set_cons_succ]
              refine wpAnyL_take 3 rfl (by kernel_rfl) (by kernel_rfl) (by kernel_rfl) (by kernel_rfl) (fun _ _ _ h => h) (by kernel_rfl) (by intro w' hS'; have hz := hS'; obtain ⟨c0, c1, c2, c3, c4⟩ := HCL.out _ hz; go_simp <;> rfl) yS ?_
              try simp only [List.getElem_toArray, List.getElem_cons_succ, List.getElem_cons_zero, Act.put, List.setIfInBounds_toArray, List.set_cons_zero, List.set_cons_succ]
              refine wpAnyL_take 4 rfl (by kernel_rfl) (by kernel_rfl) (by kernel_rfl) (by kernel_rfl) (fun _ _ _ h => h) (by kernel_rfl) (by intro w' hS'; have hz := hS'; obtain ⟨c0, c1, c2, c3, c4⟩ := HCL.out _ hz; go_simp <;> rfl) yS ?_
              try simp only [List.getElem_toArray, List.getElem_cons_succ, List.getElem_cons_zero, Act.put, List.setIfInBounds_toArray, List.set_cons_zero, List.set_cons_succ]
              refine wpAnyL_take 5 rfl (by kernel_rfl) (by kernel_rfl) (by kernel_rfl) (by kernel_rfl) (fun _ _ _ h => h) (by kernel_rfl) (by intro w' hS'; have hz := hS'; obtain ⟨c0, c1, c2, c3, c4⟩ := HCL.out _ hz; go_simp <;> rfl) yS ?_
              try simp only [List.getElem_toArray, List.getElem_cons_succ, List.getElem_cons_zero, Act.put, List.setIfInBounds_toArray, List.set_cons_zero, List.set_cons_succ]
              refine wpAnyL_take 6 rfl (by kernel_rfl) (by kernel_rfl) (by kernel_rfl) (by kernel_rfl) (fun _ _ _ h => h) (by kernel_rfl) (by intro w' hS'; have hz := hS'; obtain ⟨c0, c1, c2, c3, c4⟩ := HCL.out _ hz; go_simp <;> rfl) yS ?_
              try simp only [List.getElem_toArray, List.getElem_cons_succ, List.getElem_cons_zero, Act.put, List.setIfInBounds_toArray, List.set_cons_zero, List.set_cons_succ]
              refine wpAnyL_take 7 rfl (by kernel_rfl) (by kernel_rfl) (by kernel_rfl) (by kernel_rfl) (fun _ _ _ h => h) (by kernel_rfl) (by intro w' hS'; have hz := hS'; obtain ⟨c0, c1, c2, c3, c4⟩ := HCL.out _ hz; go_simp <;> rfl) yS ?_
              try simp only [List.getElem_toArray, List.getElem_cons_succ, List.getElem_cons_zero, Act.put, List.setIfInBounds_toArray, List.set_cons_zero, List.set_cons_succ]
              refine wpAnyL_take 8 rfl (by kernel_rfl) (by kernel_rfl) (by kernel_rfl) (by kernel_rfl) (fun _ _ _ h => h) (by kernel_rfl) (by intro w' hS'; have hz := hS'; obtain ⟨c0, c1, c2, c3, c4⟩ := HCL.out _ hz; go_simp <;> rfl) yS ?_
              try simp only [List.getElem_toArray, List.getElem_cons_succ, List.getElem_cons_zero, Act.put, List.setIfInBounds_toArray, List.set_cons_zero, List.set_cons_succ]
              refine wpAnyL_take 9 rfl (by kernel_rfl) (by kernel_rfl) (by kernel_rfl) (by kernel_rfl) (fun _ _ _ h => h) (by kernel_rfl) (by intro w' hS'; have hz := hS'; obtain ⟨c0, c1, c2, c3, c4⟩ := HCL.out _ hz; go_simp <;> rfl) yS ?_
              try simp only [List.getElem_toArray, List.getElem_cons_succ, List.getElem_cons_zero, Act.put, List.setIfInBounds_toArray, List.set_cons_zero, List.set_cons_succ]
              refine wpAnyL_take 10 rfl (by kernel_rfl) (by kernel_rfl) (by kernel_rfl) (by kernel_rfl) (fun _ _ _ h => h) (by kernel_rfl) (by intro w' hS'; have hz := hS'; obtain ⟨c0, c1, c2, c3, c4⟩ := HCL.out _ hz; go_simp <;> rfl) yS ?_
              try simp only [List.getElem_toArray, List.getElem_cons_succ, List.getElem_cons_zero, Act.put, List.setIfInBounds_toArray, List.set_cons_zero, List.set_cons_succ]
              refine wpAnyL_take 13 rfl (by kernel_rfl) (by kernel_rfl) (by kernel_rfl) (by kernel_rfl) (fun _ _ _ h => h) (by kernel_rfl) (by intro w' hS'; have hz := hS'; obtain ⟨c0, c1, c2, c3, c4⟩ := HCL.out _ hz; go_simp <;> rfl) yS ?_
              try simp only [List.getElem_toArray, List.getElem_cons_succ, List.getElem_cons_zero, Act.put, List.setIfInBounds_toArray, List.set_cons_zero, List.set_cons_succ]
              refine wpAnyL_one 11 (by kernel_rfl) rfl (by kernel_rfl) ?_
              intro K' hK'
              go_simp
              have hS1 : (fun W => Below (w.heap.size + 1) w6 W) (wd.alloc (.cells #[.slice la nn lc, .slice AY (ys.length - n) (yc - n)] 26)) := hbd.alloc (by omega) _
              refine hK'.out _ _ (.inr hS1) ?_
              clear hK' K'
              try simp only [List.getElem_toArray, List.getElem_cons_succ, List.getElem_cons_zero, Act.put, List.setIfInBounds_toArray, List.set_cons_zero, List.set_cons_succ]
              refine wpAnyL_one 12 (by kernel_rfl) rfl (by kernel_rfl) ?_
              intro K' hK'
              go_simp
              go_at_call 109
              refine kg.mono ?_
              rintro e w8 ⟨v8, rfl, hC8, hb87⟩
              have hS8 : (fun W => Below (w.heap.size + 1) w6 W) w8 := hS1.trans (hb87.mono (by omega))
              have q88 := (hb87.block (w.heap.size + 1) (by omega)).trans q77
              obtain ⟨⟨f0, f1, f2, f3, f4⟩, o0, o1, o2, o3, o4⟩ := lg_cells q88
              obtain ⟨⟨s8a, s8n, s8c⟩, cur8, st8, hv8, -, hCC⟩ := id hC8
              obtain ⟨ta8, tc8, hst8, -⟩ := hCC.1.1.shape
              generalize cur8.length = n8 at hst8
              dsimp only [lgv] at hv8
              have hfin : Hid _ := hC8.far5 q88 (by omega) (.int .u64 (ix : Int)) (.int .u64 (tm : Int)) (.int .i64 kd) (.slice s8a s8n s8c) st8
              subst hst8
              subst hv8
              have hbf := lg_set_below hS8 (g := w.heap.size + 1) (Nat.le_refl _) (.int .u64 (ix : Int)) (.int .u64 (tm : Int)) (.int .i64 kd) (.slice s8a s8n s8c) (.slice ta8 n8 tc8)
              have HF := lg_set q88 (.int .u64 (ix : Int)) (.int .u64 (tm : Int)) (.int .i64 kd) (.slice s8a s8n s8c) (.slice ta8 n8 tc8)
              clear kg hC8 hCC q77 hb87
              refine hK'.out _ _ (.inr hS8) ?_
              clear hK' K'
              try simp only [List.getElem_toArray, List.getElem_cons_succ, List.getElem_cons_zero, Act.put, List.setIfInBounds_toArray, List.set_cons_zero, List.set_cons_succ]
              refine wpAnyL_one 14 (by kernel_rfl) rfl (by kernel_rfl) ?_
              intro K' hK'
              go_simp
              refine hK'.out _ _ (.inr hbf) ?_
              clear hK' K'
              try simp only [List.getElem_toArray, List.getElem_cons_succ, List.getElem_cons_zero, Act.put, List.setIfInBounds_toArray, List.set_cons_zero, List.set_cons_succ]
              refine wpAnyL_take 15 rfl (by kernel_rfl) (by kernel_rfl) (by kernel_rfl) (by kernel_rfl) (fun _ _ _ h => h) (by kernel_rfl) (by intro w' hS'; have hz := hS'; obtain ⟨c0, c1, c2, c3, c4⟩ := HCL.out _ hz; go_simp <;> rfl) hbf ?_
              try simp only [List.getElem_toArray, List.getElem_cons_succ, List.getElem_cons_zero, Act.put, List.setIfInBounds_toArray, List.set_cons_zero, List.set_cons_succ]
              refine wpAnyL_take 16 rfl (by kernel_rfl) (by kernel_rfl) (by kernel_rfl) (by kernel_rfl) (fun _ _ _ h => h) (by kernel_rfl) (by intro w' hS'; have hz := hS'; obtain ⟨c0, c1, c2, c3, c4⟩ := HCL.out _ hz; go_simp <;> rfl) hbf ?_
              try simp only [List.getElem_toArray, List.getElem_cons_succ, List.getElem_cons_zero, Act.put, List.setIfInBounds_toArray, List.set_cons_zero, List.set_cons_succ]
              refine wpAnyL_done (by kernel_rfl) (NoPanic.normal ?_) _
              go_wp2
              (try simp only [Exit.inBlock, Exit.then])
              refine bodyPost_ret (results_lg3 rfl _ _ (w.heap.size + 1) _ _ _ _ _ rfl HF) rfl ?_
              refine ⟨?_, hbw6.trans (hbf.mono (by omega))⟩
              rw [E.out]
              exact ⟨_, rfl, LogC.mono hfin.out (Nat.zero_le _)⟩
        · have E : Hid (_ = _) := HG.out (by trivial) (by trivial) hold htm
          clear HG HSm HFu HY HPL HAG kaH kg1H kg2H HCL
          obtain ⟨⟨f0, f1, f2, f3, f4⟩, o0, o1, o2, o3, o4⟩ := lg_cells q44
          cases TM with
          | none =>
            dsimp only [termV]
            go_wp2
            (try simp only [Exit.inBlock, Exit.then])
            refine bodyPost_ret (results_lg3 rfl _ _ (w.heap.size + 1) _ _ _ _ _ rfl (lg_set q44 _ _ _ _ _)) rfl ?_
            exact ⟨lg3c_none _ E.out, lg_set_below hbw4 (by omega) _ _ _ _ _⟩
          | some t9 =>
            dsimp only [termV]
            have ht9 : ((t9 : Int) != (t : Int)) = true := by
              have : t9 ≠ t := fun e => htm (by rw [e])
              simp; omega
            clear htm
            go_wp2
            (try simp only [Exit.inBlock, Exit.then])
            refine bodyPost_ret (results_lg3 rfl _ _ (w.heap.size + 1) _ _ _ _ _ rfl (lg_set q44 _ _ _ _ _)) rfl ?_
            exact ⟨lg3c_none _ E.out, lg_set_below hbw4 (by omega) _ _ _ _ _⟩
theorem pmerge_of (b : Ez) (zs : List Ez) (lv : Value) (x t : Nat) (ys : List Ez) (yv : Value) (w : World) (hD : DataV w b) (hL : EntsV w lv zs) (hY : EntsV w yv ys) (hbo : EzOk b) (hok : ∀ z ∈ zs, EzOk z) (hoy : ∀ z ∈ ys, EzOk z) (hx : x < 18446744073709551616) (hlen : zs.length ≤ 2000000) (hleny : ys.length ≤ 2000000) (hdl : b.1.data.length ≤ 1000000000) (hdz : ∀ z ∈ zs, z.1.data.length ≤ 1000000000) (hdy : ∀ z ∈ ys, z.1.data.length ≤ 1000000000) : Calls Tryz.prog 149 #[lgv b lv, .int .u64 (x : Int), .int .u64 (t : Int), yv] w fun e w' => Lg3T (mergeM b.1 (mes zs) x t (mes ys)) e w' ∧ Below w.heap.size w w' :=
  (pmerge_c b zs lv x t ys yv w hD hL hY hbo hok hoy hx hlen hleny hdl hdz hdy).mono fun e w' ⟨h1, h2⟩ => ⟨h1.lg, h2⟩
end Go.Proofs.YthaokigkagckgaaGreat

