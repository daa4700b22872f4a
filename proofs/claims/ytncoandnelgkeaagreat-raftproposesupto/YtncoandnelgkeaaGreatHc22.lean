import Derived.Test.YtncoandnelgkeaaGreatHc10
import Derived.Test.YtncoandnelgkeaaGreatHc16
/- The contract of the document's Append. -/
namespace Go.Proofs.YtncoandnelgkeaaGreat
open Go.RowKit QuorumMath RlogMath
set_option maxRecDepth 100000
set_option linter.unusedSimpArgs false
set_option linter.unusedVariables false

theorem Ow.ow1 {α : Type} {E : El α} {t : TypeId} {n : Nat} {w : World} {v : Value} {l : List α} (h : Ow E t n w v l) : Rk E w t v l := h.1
theorem app_ents {w : World} {v x : Value} {xs ys : List Ez} (h : Rk entE w 25 v xs) (hx : Rd entE w x ys) (hlen : xs.length ≤ 10000000000) (hly : ys.length ≤ 10000000000) :
    ∀ ty, ∃ v' w', (Builtin.append_ #[26, 26] ty #[v, x]).run Tryz.prog w = .ok v' w' ∧ PushT entE 25 w v (xs ++ ys) v' w' := by
  obtain ⟨i0, i1, i2, i3, i4⟩ := info_get infoEnt
  exact append_rd entE w _ _ i0 _ _ Tryz.underlying26 i1 i2 i3 i4 rfl (by decide) v x xs ys h hx hlen hly

end Go.Proofs.YtncoandnelgkeaaGreat

/- The document's Slice, with where its rows lie. -/
namespace Go.Proofs.YtncoandnelgkeaaGreat
open Go.RowKit QuorumMath RlogMath
set_option maxRecDepth 100000
set_option linter.unusedSimpArgs false
set_option linter.unusedVariables false

set_option maxHeartbeats 4000000 in
theorem rslice_n (n : Nat) (b : Ez) (zs : List Ez) (lv : Value) (x : Nat) (most : Int) (w : World) (hL : EntsN n w lv zs) (hlen : zs.length ≤ 1000000000) : Calls Tryz.prog 125 #[lgv b lv, .int .u64 (x : Int), .int .i64 most] w fun e w' => ∃ v, e = .returned v ∧ EntsN n w' v (sliceZ b zs x most) ∧ Below w.heap.size w w' := by
  obtain ⟨R, HR⟩ : ∃ R, Hid (R = sliceZ b zs x most) := ⟨_, rfl⟩
  rw [← HR.out]
  obtain ⟨hs, hb0, cl⟩ := lg_box w b lv
  have HD : Hid (∀ z ∈ zs, ∀ W, Below w.heap.size w W → DataN n W z) := fun z hz W hW => (hL.2 z hz).below hW
  have HL : Hid (Rd entE w lv zs) := hL.1.rd
  obtain ⟨la, lc, rfl, -, -⟩ := hL.1.rd.shape
  obtain ⟨q1, q2, q3⟩ := one_box (w.alloc (lgc b (.slice la zs.length lc))) (.cells #[] 25)
  rw [hs] at q1 q2 q3
  have hb2 := hb0.trans (q3.mono (Nat.le_succ _))
  have hO0 : Ow entE 25 (w.heap.size + 1) ((w.alloc (lgc b (.slice la zs.length lc))).alloc (.cells #[] 25)) (.slice (some ⟨w.heap.size + 1, 0, none⟩) 0 0) (pickZ x most (zs.take 0)) := ⟨by rw [List.take_zero, pick_nil]; exact Rk.made (xs := []) q2 rfl (by unfold maxLen; simp), fun k hk => by cases hk; exact Nat.le_refl _⟩
  have HB : Hid (b.1.idx < x → R = pickZ x most zs) := fun h => by rw [HR.out]; unfold sliceZ; rw [if_pos h]
  have HB2 : Hid (¬ b.1.idx < x → R = []) := fun h => by rw [HR.out]; unfold sliceZ; rw [if_neg h]
  obtain ⟨⟨ix, tm, kd, dt⟩, sa, sn, sc⟩ := b
  dsimp only [lgc] at *
  clear hL HR
  go_enter Tryz.func125, Tryz.ntmps125
  go_wp2
  go_loopg [7, 8] zs.length (fun gh s7 s8 wr => ∃ (k : Nat) (st : Value), k + gh = zs.length ∧ s8 = .int .i64 (k : Int) ∧ st = s7 ∧ Ow entE 25 (w.heap.size + 1) wr st (pickZ x most (zs.take k)) ∧ Below (w.heap.size + 1) (w.alloc (.cells #[.int .u64 (ix : Int), .int .u64 (tm : Int), .int .i64 kd, .slice sa sn sc, .slice la zs.length lc] 28)) wr ∧ Hid (¬ ix < x → k = 0))
  case atStart => exact ⟨0, _, by simp, rfl, rfl, hO0, q3, fun _ => rfl⟩
  case round =>
    obtain ⟨k, st, hkg, rfl, rfl, hO, hb3, HK0⟩ := hrel
    have hb03 := hb0.trans (hb3.mono (Nat.le_succ _))
    obtain ⟨c0, c1, c2, c3, c4⟩ := cl wr hb3
    obtain ⟨ta, tc, hst, -⟩ := hO.1.shape
    have hpl := pick_len x most (zs.take k)
    have hpl2 : (zs.take k).length ≤ zs.length := by rw [List.length_take]; omega
    clear hO0 q1 q2 q3 hb2
    by_cases hlt : k < zs.length
    · have hlti : (k : Int) < (zs.length : Int) := by omega
      by_cases hx : ix < x
      · have hxi : (ix : Int) < (x : Int) := by omega
        have hz : zs[k]? = some zs[k] := List.getElem?_eq_getElem hlt
        obtain ⟨z, hzz⟩ : ∃ z, z = zs[k] := ⟨_, rfl⟩
        rw [← hzz] at hz
        clear hzz
        obtain ⟨p, off, rfl, c⟩ := rde_at HL.out hz
        obtain ⟨d0, d1, d2, d3⟩ := c _ hb03
        have HNO : Hid (¬ (x ≤ z.1.idx ∧ ((pickZ x most (zs.take k)).length : Int) < most) → pickZ x most (zs.take (k + 1)) = pickZ x most (zs.take k)) := pick_no hz
        have HYES : Hid (x ≤ z.1.idx → ((pickZ x most (zs.take k)).length : Int) < most → pickZ x most (zs.take (k + 1)) = pickZ x most (zs.take k) ++ [z]) := pick_yes hz
        have hrunH : Hid _ := push_ent z hO.1 (by omega)
        obtain ⟨⟨ix2, tm2, kd2, dt2⟩, sa2, sn2, sc2⟩ := z
        dsimp only at d0 d1 d2 d3 HNO HYES hrunH
        generalize pickZ x most (zs.take k) = L at *
        subst hst
        clear hz c HB HB2 HD HL cl
        by_cases h1 : x ≤ ix2
        · have h1i : (x : Int) ≤ (ix2 : Int) := by omega
          by_cases h2 : (L.length : Int) < most
          · have E : Hid (_ = _) := HYES.out h1 h2
            clear HNO HYES
            go_wp2_with (at_builtin; refine wp_by rfl _ _ _ rfl _ _ rfl rfl hrunH.out ?_)
            intro v6 w6 hp6
            obtain ⟨hO2, hb6⟩ := hO.push (by have := hb3.size; simp at this; omega) hp6
            rw [← E.out] at hO2
            clear hO hrunH hp6 E
            go_wp2
            go_roundg (gk - 1)
            case measure => omega
            case rel => exact ⟨k + 1, v6, by omega, by go_num, rfl, hO2, hb3.trans hb6, fun h => absurd hx h⟩
          · have E : Hid (_ = _) := HNO.out (fun h => h2 h.2)
            have h2i : decide ((L.length : Int) < most) = false := by simpa using h2
            clear HNO HYES hrunH
            go_wp2
            go_roundg (gk - 1)
            case measure => omega
            case rel => exact ⟨k + 1, _, by omega, by go_num, rfl, by rw [E.out]; exact hO, hb3, fun h => absurd hx h⟩
        · have h1i : ¬ (x : Int) ≤ (ix2 : Int) := by omega
          have E : Hid (_ = _) := HNO.out (fun h => h1 h.1)
          clear HNO HYES hrunH
          go_wp2
          go_roundg (gk - 1)
          case measure => omega
          case rel => exact ⟨k + 1, _, by omega, by go_num, rfl, by rw [E.out]; exact hO, hb3, fun h => absurd hx h⟩
      · have hxi : ¬ (ix : Int) < (x : Int) := by omega
        have HE : Hid (R = pickZ x most (zs.take k)) := by show _ = _; rw [HB2.out hx, HK0.out hx, List.take_zero, pick_nil]
        have hfin : Hid (EntsN n wr st R) := by
          show EntsN _ _ _ _
          refine ⟨by rw [HE.out]; exact hO.1.toN n, fun z hz => ?_⟩
          rw [HE.out] at hz
          exact HD.out z (List.mem_of_mem_take (pick_sub _ _ _ z hz)) wr hb03
        subst hst
        clear HE HB HB2 HD HL cl hO HK0
        go_wp2
        go_ret
        exact ⟨_, rfl, hfin.out, hb03⟩
    · have hlti : ¬ (k : Int) < (zs.length : Int) := by omega
      have HE : Hid (R = pickZ x most (zs.take k)) := by
        show _ = _
        by_cases hx : ix < x
        · rw [HB.out hx, List.take_of_length_le (by omega)]
        · rw [HB2.out hx, HK0.out hx, List.take_zero, pick_nil]
      have hfin : Hid (EntsN n wr st R) := by
        show EntsN _ _ _ _
        refine ⟨by rw [HE.out]; exact hO.1.toN n, fun z hz => ?_⟩
        rw [HE.out] at hz
        exact HD.out z (List.mem_of_mem_take (pick_sub _ _ _ z hz)) wr hb03
      subst hst
      clear HE HB HB2 HD HL cl hO HK0
      go_wp2
      go_ret
      exact ⟨_, rfl, hfin.out, hb03⟩

end Go.Proofs.YtncoandnelgkeaaGreat

