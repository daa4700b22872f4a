import Derived.Test.YtmmonehpfmlmeaaHm18
/- The contracts of the document's Slice and of the law's light. -/
namespace Go.Proofs.Ytmmonehpfmlmeaa
open Go.RowKit QuorumMath RlogMath
set_option maxRecDepth 100000
set_option linter.unusedSimpArgs false
set_option linter.unusedVariables false

theorem infoEnt : (Try.prog.info? 25).map (fun i => (i.zero, i.size, i.bytes)) = some (some (.agg #[.int .u64 0, .int .u64 0, .int .i64 0, .slice none 0 0]), 4, 48) := by kernel_rfl
theorem push_ent {w : World} {v : Value} {xs : List Ez} (z : Ez) (h : Rk entE w 25 v xs) (hlen : xs.length ≤ 10000000000) :
    ∀ ty, ∃ v' w', (Builtin.append_ #[26, 26] ty #[v, .slice (some ⟨w.heap.size, 0, none⟩) 1 1]).run Try.prog (w.alloc (.cells #[.int .u64 (z.1.idx : Int), .int .u64 (z.1.term : Int), .int .i64 z.1.kind, .slice z.2.1 z.2.2.1 z.2.2.2] 25)) = .ok v' w' ∧ PushT entE 25 w v (xs ++ [z]) v' w' :=
  push_el entE Try.underlying26 infoEnt rfl (by decide) z h hlen

/-- What Slice picks. -/
def pickZ (x : Nat) (most : Int) (zs : List Ez) : List Ez := (zs.filter fun z => decide (x ≤ z.1.idx)).take most.toNat
def sliceZ (b : Ez) (zs : List Ez) (x : Nat) (most : Int) : List Ez := if b.1.idx < x then pickZ x most zs else []
theorem pick_nil (x : Nat) (most : Int) : pickZ x most [] = [] := by simp [pickZ]
theorem pick_no {x : Nat} {most : Int} {zs : List Ez} {k : Nat} {z : Ez} (hz : zs[k]? = some z) (h : ¬ (x ≤ z.1.idx ∧ ((pickZ x most (zs.take k)).length : Int) < most)) : pickZ x most (zs.take (k + 1)) = pickZ x most (zs.take k) := by
  unfold pickZ at *
  rw [take_succ_get hz, List.filter_append]
  by_cases hx : x ≤ z.1.idx
  · have h1 : ¬ (((List.filter (fun z => decide (x ≤ z.1.idx)) (zs.take k)).take most.toNat).length : Int) < most := fun hh => h ⟨hx, hh⟩
    rw [List.length_take] at h1
    rw [List.take_append_of_le_length (by omega)]
  · simp [hx]
theorem pick_yes {x : Nat} {most : Int} {zs : List Ez} {k : Nat} {z : Ez} (hz : zs[k]? = some z) (hx : x ≤ z.1.idx) (h : ((pickZ x most (zs.take k)).length : Int) < most) : pickZ x most (zs.take (k + 1)) = pickZ x most (zs.take k) ++ [z] := by
  unfold pickZ at *
  rw [take_succ_get hz, List.filter_append]
  rw [List.length_take] at h
  have e : List.filter (fun z => decide (x ≤ z.1.idx)) [z] = [z] := by simp [hx]
  rw [e, List.take_append, List.take_of_length_le (by omega)]
  congr 1
  rw [List.take_of_length_le (by simp; omega)]
theorem pick_sub (x : Nat) (most : Int) (zs : List Ez) : ∀ z ∈ pickZ x most zs, z ∈ zs := fun z hz => (List.mem_filter.1 (List.mem_of_mem_take hz)).1
theorem pick_len (x : Nat) (most : Int) (zs : List Ez) : (pickZ x most zs).length ≤ zs.length := by
  unfold pickZ
  rw [List.length_take]
  exact Nat.le_trans (Nat.min_le_right _ _) (List.length_filter_le _ _)

set_option maxHeartbeats 4000000 in
theorem rslice_of (b : Ez) (zs : List Ez) (lv : Value) (x : Nat) (most : Int) (w : World) (hL : EntsV w lv zs) (hlen : zs.length ≤ 1000000000) : Calls Try.prog 20 #[lgv b lv, .int .u64 (x : Int), .int .i64 most] w fun e w' => ∃ v, e = .returned v ∧ EntsV w' v (sliceZ b zs x most) ∧ Below w.heap.size w w' := by
  obtain ⟨R, HR⟩ : ∃ R, Hid (R = sliceZ b zs x most) := ⟨_, rfl⟩
  rw [← HR.out]
  obtain ⟨hs, hb0, cl⟩ := lg_box w b lv
  have HD : Hid (∀ z ∈ zs, ∀ W, Below w.heap.size w W → DataV W z) := fun z hz W hW => (hL.2 z hz).below hW
  have HL : Hid (Rd entE w lv zs) := hL.1
  obtain ⟨la, lc, rfl, -, -⟩ := hL.1.shape
  obtain ⟨q1, q2, q3⟩ := one_box (w.alloc (lgc b (.slice la zs.length lc))) (.cells #[] 25)
  rw [hs] at q1 q2 q3
  have hb2 := hb0.trans (q3.mono (Nat.le_succ _))
  have hO0 : Ow entE 25 (w.heap.size + 1) ((w.alloc (lgc b (.slice la zs.length lc))).alloc (.cells #[] 25)) (.slice (some ⟨w.heap.size + 1, 0, none⟩) 0 0) (pickZ x most (zs.take 0)) := ⟨by rw [List.take_zero, pick_nil]; exact Rk.made (xs := []) q2 rfl (by unfold maxLen; simp), fun k hk => by cases hk; exact Nat.le_refl _⟩
  have HB : Hid (b.1.idx < x → R = pickZ x most zs) := fun h => by rw [HR.out]; unfold sliceZ; rw [if_pos h]
  have HB2 : Hid (¬ b.1.idx < x → R = []) := fun h => by rw [HR.out]; unfold sliceZ; rw [if_neg h]
  obtain ⟨⟨ix, tm, kd, dt⟩, sa, sn, sc⟩ := b
  dsimp only [lgc] at *
  clear hL HR
  go_enter Try.func20, Try.ntmps20
  go_wp2
  go_loopg [7, 8] zs.length (fun gh s7 s8 wr => ∃ (k : Nat) (st : Value), k + gh = zs.length ∧ s8 = .int .i64 (k : Int) ∧ st = s7 ∧ Ow entE 25 (w.heap.size + 1) wr st (pickZ x most (zs.take k)) ∧ Below (w.heap.size + 1) (w.alloc (.cells #[.int .u64 (ix : Int), .int .u64 (tm : Int), .int .i64 kd, .slice sa sn sc, .slice la zs.length lc] 28)) wr ∧ Hid (¬ ix < x → k = 0))
  case atStart => exact ⟨0, _, by simp, rfl, rfl, hO0, q3, fun _ => rfl⟩
  case round =>
    obtain ⟨k, st, hkg, rfl, rfl, hO, hb3, HK0⟩ := hrel
    have hb03 := hb0.trans (hb3.mono (Nat.le_succ _))
    obtain ⟨c0, c1, c2, c3, c4⟩ := cl wr hb3
    obtain ⟨ta, tc, hst, -⟩ := hO.1.shape
    have hpl := pick_len x most (zs.take k)
    have hpl2 : (zs.take k).length ≤ zs.length := by rw [List.length_take]; omega
    clear hO0 q1 q2 q3 hb2
    by_cases hlt : k < zs.length
    · have hlti : (k : Int) < (zs.length : Int) := by omega
      by_cases hx : ix < x
      · have hxi : (ix : Int) < (x : Int) := by omega
        have hz : zs[k]? = some zs[k] := List.getElem?_eq_getElem hlt
        obtain ⟨z, hzz⟩ : ∃ z, z = zs[k] := ⟨_, rfl⟩
        rw [← hzz] at hz
        clear hzz
        obtain ⟨p, off, rfl, c⟩ := rde_at HL.out hz
        obtain ⟨d0, d1, d2, d3⟩ := c _ hb03
        have HNO : Hid (¬ (x ≤ z.1.idx ∧ ((pickZ x most (zs.take k)).length : Int) < most) → pickZ x most (zs.take (k + 1)) = pickZ x most (zs.take k)) := pick_no hz
        have HYES : Hid (x ≤ z.1.idx → ((pickZ x most (zs.take k)).length : Int) < most → pickZ x most (zs.take (k + 1)) = pickZ x most (zs.take k) ++ [z]) := pick_yes hz
        have hrunH : Hid _ := push_ent z hO.1 (by omega)
        obtain ⟨⟨ix2, tm2, kd2, dt2⟩, sa2, sn2, sc2⟩ := z
        dsimp only at d0 d1 d2 d3 HNO HYES hrunH
        generalize pickZ x most (zs.take k) = L at *
        subst hst
        clear hz c HB HB2 HD HL cl
        by_cases h1 : x ≤ ix2
        · have h1i : (x : Int) ≤ (ix2 : Int) := by omega
          by_cases h2 : (L.length : Int) < most
          · have E : Hid (_ = _) := HYES.out h1 h2
            clear HNO HYES
            go_wp2_with (at_builtin; refine wp_by rfl _ _ _ rfl _ _ rfl rfl hrunH.out ?_)
            intro v6 w6 hp6
            obtain ⟨hO2, hb6⟩ := hO.push (by have := hb3.size; simp at this; omega) hp6
            rw [← E.out] at hO2
            clear hO hrunH hp6 E
            go_wp2
            go_roundg (gk - 1)
            case measure => omega
            case rel => exact ⟨k + 1, v6, by omega, by go_num, rfl, hO2, hb3.trans hb6, fun h => absurd hx h⟩
          · have E : Hid (_ = _) := HNO.out (fun h => h2 h.2)
            have h2i : decide ((L.length : Int) < most) = false := by simpa using h2
            clear HNO HYES hrunH
            go_wp2
            go_roundg (gk - 1)
            case measure => omega
            case rel => exact ⟨k + 1, _, by omega, by go_num, rfl, by rw [E.out]; exact hO, hb3, fun h => absurd hx h⟩
        · have h1i : ¬ (x : Int) ≤ (ix2 : Int) := by omega
          have E : Hid (_ = _) := HNO.out (fun h => h1 h.1)
          clear HNO HYES hrunH
          go_wp2
          go_roundg (gk - 1)
          case measure => omega
          case rel => exact ⟨k + 1, _, by omega, by go_num, rfl, by rw [E.out]; exact hO, hb3, fun h => absurd hx h⟩
      · have hxi : ¬ (ix : Int) < (x : Int) := by omega
        have HE : Hid (R = pickZ x most (zs.take k)) := by show _ = _; rw [HB2.out hx, HK0.out hx, List.take_zero, pick_nil]
        have hfin : Hid (EntsV wr st R) := by
          show EntsV _ _ _
          refine ⟨by rw [HE.out]; exact hO.1.rd, fun z hz => ?_⟩
          rw [HE.out] at hz
          exact HD.out z (List.mem_of_mem_take (pick_sub _ _ _ z hz)) wr hb03
        subst hst
        clear HE HB HB2 HD HL cl hO HK0
        go_wp2
        go_ret
        exact ⟨_, rfl, hfin.out, hb03⟩
    · have hlti : ¬ (k : Int) < (zs.length : Int) := by omega
      have HE : Hid (R = pickZ x most (zs.take k)) := by
        show _ = _
        by_cases hx : ix < x
        · rw [HB.out hx, List.take_of_length_le (by omega)]
        · rw [HB2.out hx, HK0.out hx, List.take_zero, pick_nil]
      have hfin : Hid (EntsV wr st R) := by
        show EntsV _ _ _
        refine ⟨by rw [HE.out]; exact hO.1.rd, fun z hz => ?_⟩
        rw [HE.out] at hz
        exact HD.out z (List.mem_of_mem_take (pick_sub _ _ _ z hz)) wr hb03
      subst hst
      clear HE HB HB2 HD HL cl hO HK0
      go_wp2
      go_ret
      exact ⟨_, rfl, hfin.out, hb03⟩

/-- What light tells: of a log that is light, how long it is. -/
def LightT (zs : List Ez) (w : World) (e : Ending) (w' : World) : Prop := ∃ B, e = .returned (.bool B) ∧ (B = true → zs.length ≤ 300 ∧ ∀ z ∈ zs, z.1.data.length ≤ 20000) ∧ Below w.heap.size w w'
set_option maxHeartbeats 4000000 in
theorem light_of (b : Ez) (zs : List Ez) (lv : Value) (w : World) (hL : EntsV w lv zs) (hlen : zs.length ≤ 1000000000000) (hdz : ∀ z ∈ zs, z.1.data.length ≤ 140737488355328) : Calls Try.prog 12 #[lgv b lv] w (LightT zs w) := by
  obtain ⟨hs, hb0, cl⟩ := lg_box w b lv
  have HL : Hid (EntsV w lv zs) := hL
  have HDZ : Hid (∀ z ∈ zs, z.1.data.length ≤ 140737488355328) := hdz
  obtain ⟨la, lc, rfl, -, -⟩ := hL.1.shape
  obtain ⟨⟨ix, tm, kd, dt⟩, sa, sn, sc⟩ := b
  obtain ⟨c0, c1, c2, c3, c4⟩ := cl _ (Below.refl _ _)
  dsimp only [lgc] at *
  obtain ⟨T, HT⟩ : ∃ T, Hid (T = LightT zs w) := ⟨_, rfl⟩
  rw [← HT.out]
  clear hL hdz cl hs
  go_enter Try.func12, Try.ntmps12
  go_wp2
  generalize hw9 : w.alloc (.cells #[.int .u64 (ix : Int), .int .u64 (tm : Int), .int .i64 kd, .slice sa sn sc, .slice la zs.length lc] 28) = w9 at *
  clear hw9
  go_loopg [3, 4] zs.length (fun gh s3 s4 wr => ∃ (k n : Nat), k + gh = zs.length ∧ k ≤ 5000 ∧ s4 = .int .i64 (k : Int) ∧ s3 = .int .i64 (n : Int) ∧ wr = w9 ∧ Hid (n ≤ k * 140737488355328) ∧ Hid (∀ z ∈ zs.take k, z.1.data.length ≤ n))
  case atStart => exact ⟨0, 0, by simp, by omega, rfl, rfl, rfl, Nat.zero_le _, fun z hz => by simp at hz⟩
  case round =>
    obtain ⟨k, n, hkg, hk5, rfl, rfl, rfl, HN, HA⟩ := hrel
    by_cases hlt : k < zs.length
    · have hlti : (k : Int) < (zs.length : Int) := by omega
      by_cases h5 : k < 5000
      · have h5i : (k : Int) < 5000 := by omega
        have hz : zs[k]? = some zs[k] := List.getElem?_eq_getElem hlt
        obtain ⟨z, hzz⟩ : ∃ z, z = zs[k] := ⟨_, rfl⟩
        rw [← hzz] at hz
        clear hzz
        obtain ⟨p, off, rfl, c⟩ := rde_at HL.out.1 hz
        obtain ⟨d0, d1, d2, d3⟩ := c _ hb0
        have hzm := List.mem_of_getElem? hz
        have hln := (HL.out.2 z hzm).len
        have hl47 := HDZ.out z hzm
        obtain ⟨⟨ix2, tm2, kd2, dt2⟩, sa2, sn2, sc2⟩ := z
        dsimp only at d0 d1 d2 d3 hln hl47
        subst hln
        obtain ⟨m, hm⟩ : ∃ m, Hid (m = n + dt2.length) := ⟨_, rfl⟩
        have HN2 : Hid (m ≤ (k + 1) * 140737488355328) := by show _ ≤ _; have h1 := HN.out; have h2 := hm.out; rw [Nat.add_mul]; omega
        have HA2 : Hid (∀ z ∈ zs.take (k + 1), z.1.data.length ≤ m) := fun y hy => by
          rw [take_succ_get hz, List.mem_append, List.mem_singleton] at hy
          have h2 := hm.out
          rcases hy with hy | rfl
          · have := HA.out y hy
            omega
          · show dt2.length ≤ m
            omega
        have hw1 : IntKind.i64.wrap ((n : Int) + (dt2.length : Int)) = (m : Int) := by
          have h1 := HN2.out
          have h2 := hm.out
          rw [show (n : Int) + (dt2.length : Int) = (m : Int) by omega]
          have h3 : (k + 1) * 140737488355328 ≤ 5000 * 140737488355328 := Nat.mul_le_mul_right _ (by omega)
          exact IntWalk.i64_in _ (by omega)
        have hw2 : (n : Int) + (dt2.length : Int) = (m : Int) := by have h2 := hm.out; omega
        have hm9 : Hid (m ≤ 9000000000000000000) := by
          show _ ≤ _
          have h1 := HN2.out
          have h3 : (k + 1) * 140737488355328 ≤ 5000 * 140737488355328 := Nat.mul_le_mul_right _ (by omega)
          omega
        have hm0 : (m : Int) ≤ 9223372036854775807 := by have := hm9.out; omega
        clear HN HA hz c hzm HL HDZ hl47 hm
        go_wp2
        go_roundg (gk - 1)
        case measure => omega
        case rel => exact ⟨k + 1, m, by omega, by omega, by go_num, rfl, rfl, HN2, HA2⟩
      · have h5i : ¬ (k : Int) < 5000 := by omega
        have h3 : ¬ (zs.length : Int) ≤ 300 := by omega
        have E : Hid (T (.returned (.bool false)) wr) := by show T _ _; rw [HT.out]; exact ⟨_, rfl, (fun h => by cases h), hb0⟩
        clear HN HA HL HDZ HT
        go_wp2 <;> first | exact E.out | (go_ret; exact E.out)
    · have hlti : ¬ (k : Int) < (zs.length : Int) := by omega
      by_cases h3 : zs.length ≤ 300
      · have h3i : (zs.length : Int) ≤ 300 := by omega
        by_cases hn : n ≤ 20000
        · have hni : (n : Int) ≤ 20000 := by omega
          have E : Hid (T (.returned (.bool true)) wr) := by
            show T _ _
            rw [HT.out]
            refine ⟨_, rfl, fun _ => ⟨h3, fun z hz => ?_⟩, hb0⟩
            have := HA.out z (by rw [List.take_of_length_le (by omega)]; exact hz)
            omega
          clear HN HA HL HDZ HT
          go_wp2 <;> first | exact E.out | (go_ret; exact E.out)
        · have hni : ¬ (n : Int) ≤ 20000 := by omega
          have E : Hid (T (.returned (.bool false)) wr) := by show T _ _; rw [HT.out]; exact ⟨_, rfl, (fun h => by cases h), hb0⟩
          clear HN HA HL HDZ HT
          go_wp2 <;> first | exact E.out | (go_ret; exact E.out)
      · have h3i : ¬ (zs.length : Int) ≤ 300 := by omega
        have E : Hid (T (.returned (.bool false)) wr) := by show T _ _; rw [HT.out]; exact ⟨_, rfl, (fun h => by cases h), hb0⟩
        clear HN HA HL HDZ HT
        go_wp2 <;> first | exact E.out | (go_ret; exact E.out)
end Go.Proofs.Ytmmonehpfmlmeaa

