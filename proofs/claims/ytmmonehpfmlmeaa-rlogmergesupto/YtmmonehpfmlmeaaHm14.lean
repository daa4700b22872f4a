import Derived.Test.YtmmonehpfmlmeaaHm13
import Derived.Test.YtmmonehpfmlmeaaHm06
/- The program's nodesOf, mayBeBase, mayBeEntry. -/
namespace Go.Proofs.Ytmmonehpfmlmeaa
open Go.RowKit QuorumMath RlogMath
set_option maxRecDepth 100000
set_option linter.unusedSimpArgs false
set_option linter.unusedVariables false

set_option maxHeartbeats 2000000 in
theorem pnodes_of (d : List Nat) (dv : Value) (w : World) (hD : Rd byteE w dv d) (hlen : d.length ≤ 1000000000) (hc : ∀ c ∈ d, c < 256) : Calls Try.prog 43 #[dv] w fun e w' => ∃ v, e = .returned v ∧ Ow intE 3 w.heap.size w' v (nodesI d) ∧ Below w.heap.size w w' := by
  obtain ⟨R, HR⟩ : ∃ R, Hid (R = nodesI d) := ⟨_, rfl⟩
  rw [← HR.out]
  obtain ⟨ao, cap, rfl, -, -⟩ := hD.shape
  have hO0 : Ow intE 3 w.heap.size w (.slice none 0 0) (nodesI (d.take 0)) := Ow.nil _ _ _ _
  go_enter Try.func43, Try.ntmps43
  go_wp2
  go_loopg [3, 8] d.length (fun gh s3 s8 wr => ∃ (i : Nat) (st : Value), i + gh = d.length ∧ s8 = .int .i64 (i : Int) ∧ st = s3 ∧ Ow intE 3 w.heap.size wr st (nodesI (d.take i)) ∧ Below w.heap.size w wr)
  case atStart => exact ⟨0, _, by simp, rfl, rfl, hO0, Below.refl _ _⟩
  case round =>
    obtain ⟨i, st, hig, rfl, rfl, hO, hb⟩ := hrel
    clear hO0
    by_cases hlt : i < d.length
    · have hlti : (i : Int) < (d.length : Int) := by omega
      have hx : d[i]? = some d[i] := List.getElem?_eq_getElem hlt
      obtain ⟨x, hxx⟩ : ∃ x, x = d[i] := ⟨_, rfl⟩
      rw [← hxx] at hx
      clear hxx
      obtain ⟨b, off, rfl, c⟩ := rdb_at hD hx
      have c0 := c wr hb
      have hx8 := hc x (List.mem_of_getElem? hx)
      have HS : Hid (nodesI (d.take (i + 1)) = nodesI (d.take i) ++ [(x : Int)]) := by show _ = _; unfold nodesI; rw [take_succ_get hx, List.map_append]; rfl
      have hml : (nodesI (d.take i)).length ≤ 10000000000 := by rw [nodesI_len, List.length_take]; omega
      have hrunH : Hid _ := push_int (x : Int) hO.1 hml
      obtain ⟨sa, sc, hst, -⟩ := hO.1.shape
      generalize nodesI (d.take i) = L at *
      subst hst
      clear c hx hD hc HR
      go_wp2_with (at_builtin; refine wp_by rfl _ _ _ rfl _ _ rfl rfl hrunH.out ?_)
      intro v6 w6 hp6
      obtain ⟨hO2, hb2⟩ := hO.push hb.size hp6
      rw [← HS.out] at hO2
      clear hO hrunH hp6 HS
      go_wp2
      go_roundg (gk - 1)
      case measure => omega
      case rel => exact ⟨i + 1, v6, by omega, by go_num, rfl, hO2, hb.trans hb2⟩
    · have hlti : ¬ (i : Int) < (d.length : Int) := by omega
      obtain rfl : d.length = i := by omega
      rw [List.take_length, ← HR.out] at hO
      clear hD hc HR
      go_wp2
      go_ret
      exact ⟨_, rfl, hO, hb⟩

set_option maxHeartbeats 2000000 in
theorem pentry_of (i t : Nat) (kd : Int) (dt : List Nat) (sa : Option Addr) (sn sc : Nat) (w : World) (hD : Rd byteE w (.slice sa sn sc) dt) (hc : ∀ c ∈ dt, c < 256) : Calls Try.prog 45 #[.int .i64 kd, .slice sa sn sc] w fun e w' => e = .returned (.bool (entB ⟨i, t, kd, dt⟩)) ∧ Below w.heap.size w w' := by
  obtain ⟨B, HB⟩ : ∃ B, Hid (B = entB ⟨i, t, kd, dt⟩) := ⟨_, rfl⟩
  rw [← HB.out]
  obtain rfl : sn = dt.length := by
    obtain ⟨ao, cap, e, _⟩ := hD
    exact (Value.slice.inj e).2.1
  by_cases k0 : kd < 0
  · have E : Hid (B = false) := by show _ = _; rw [HB.out]; exact ent_neg k0
    clear HB hD
    go_enter Try.func45, Try.ntmps45
    go_wp2
    go_ret
    exact ⟨by rw [E.out]; rfl, Below.refl _ _⟩
  · by_cases k3 : 3 ≤ kd
    · have E : Hid (B = false) := by show _ = _; rw [HB.out]; exact ent_big k3
      clear HB hD
      go_enter Try.func45, Try.ntmps45
      go_wp2
      go_ret
      exact ⟨by rw [E.out]; rfl, Below.refl _ _⟩
    · by_cases hl : 4096 < dt.length
      · have hli : (4096 : Int) < (dt.length : Int) := by omega
        have E : Hid (B = false) := by show _ = _; rw [HB.out]; exact ent_long hl
        clear HB hD
        go_enter Try.func45, Try.ntmps45
        go_wp2
        go_ret
        exact ⟨by rw [E.out]; rfl, Below.refl _ _⟩
      · have hli : ¬ (4096 : Int) < (dt.length : Int) := by omega
        have E0 : Hid (B = (!decide (kd = 2) || votB (nodesI dt))) := by
          show _ = _
          rw [HB.out]
          exact ent_in k0 k3 hl
        clear HB
        by_cases k2 : kd = 2
        · have E : Hid (B = votB (nodesI dt)) := by show _ = _; rw [E0.out, decide_eq_true k2]; rfl
          have kn := pnodes_of dt (.slice sa dt.length sc) w hD (by omega) hc
          subst k2
          clear E0 hD hc
          go_enter Try.func45, Try.ntmps45
          go_wp2_with fail
          refine kn.mono ?_
          rintro e w1 ⟨u, rfl, hO, hb1⟩
          have kv := check_of (nodesI dt) u w1 hO.1.rd (by rw [nodesI_len]; omega)
          rw [← E.out] at kv
          obtain ⟨ua, uc, rfl, -, -⟩ := hO.1.rd.shape
          clear kn hO E
          go_wp2_with fail
          refine kv.mono ?_
          rintro e w2 ⟨rfl, hw2⟩
          subst hw2
          go_wp2
          go_ret
          exact ⟨rfl, hb1⟩
        · have E : Hid (B = true) := by show _ = _; rw [E0.out, decide_eq_false k2]; rfl
          clear E0 hD hc
          go_enter Try.func45, Try.ntmps45
          go_wp2
          go_ret
          exact ⟨by rw [E.out]; rfl, Below.refl _ _⟩

/-- May a log stand behind such an entry? -/
def baseB (b : Me) : Bool := decide (b.kind = 0) && votB (nodesI b.data) && decide (b.idx ≤ 4611686018427387904)
set_option maxHeartbeats 2000000 in
theorem pbase_of (b : Ez) (w : World) (hD : DataV w b) (hbo : EzOk b) (hdl : b.1.data.length ≤ 1000000000) : Calls Try.prog 38 #[ev b] w fun e w' => e = .returned (.bool (baseB b.1)) ∧ Below w.heap.size w w' := by
  obtain ⟨B, HB⟩ : ∃ B, Hid (B = baseB b.1) := ⟨_, rfl⟩
  rw [← HB.out]
  have hl := hD.len
  obtain ⟨⟨ix, tm, kd, dt⟩, sa, sn, sc⟩ := b
  have hc := hbo.2.2
  dsimp only [ev] at *
  subst hl
  have hDR : Rd byteE w (.slice sa dt.length sc) dt := hD
  obtain ⟨h1, h2, h3⟩ := one_box w (.cells #[.int .u64 (ix : Int), .int .u64 (tm : Int), .int .i64 kd, .slice sa dt.length sc] 25)
  have kn := pnodes_of dt (.slice sa dt.length sc) (w.alloc (.cells #[.int .u64 (ix : Int), .int .u64 (tm : Int), .int .i64 kd, .slice sa dt.length sc] 25)) (hDR.below h3) hdl hc
  clear hD hbo hDR h2
  by_cases h0 : kd = 0
  · by_cases hi : ix ≤ 4611686018427387904
    · have hii : (ix : Int) ≤ 4611686018427387904 := by omega
      have E : Hid (B = votB (nodesI dt)) := by show _ = _; rw [HB.out]; unfold baseB; rw [decide_eq_true h0, decide_eq_true hi, Bool.and_true]; rfl
      subst h0
      clear HB hc
      go_enter Try.func38, Try.ntmps38
      go_wp2_with fail
      refine kn.mono ?_
      rintro e w1 ⟨u, rfl, hO, hb1⟩
      have kv := check_of (nodesI dt) u w1 hO.1.rd (by rw [nodesI_len]; omega)
      rw [← E.out] at kv
      obtain ⟨ua, uc, rfl, -, -⟩ := hO.1.rd.shape
      clear kn hO E
      go_wp2_with fail
      refine kv.mono ?_
      rintro e w2 ⟨rfl, hw2⟩
      subst hw2
      go_wp2
      go_ret
      exact ⟨rfl, h3.trans (hb1.mono (by omega))⟩
    · have hii : decide ((ix : Int) ≤ 4611686018427387904) = false := by simp; omega
      have E : Hid (B = false) := by show _ = _; rw [HB.out]; unfold baseB; rw [decide_eq_false hi, Bool.and_false]
      subst h0
      clear HB hc kn
      go_enter Try.func38, Try.ntmps38
      go_wp2
      go_ret
      exact ⟨by rw [E.out]; simp, h3⟩
  · have h0b : (kd == 0) = false := by simpa using h0
    have E : Hid (B = false) := by show _ = _; rw [HB.out]; unfold baseB; rw [decide_eq_false h0]; rfl
    clear HB hc kn
    go_enter Try.func38, Try.ntmps38
    go_wp2
    go_ret
    exact ⟨by rw [E.out]; simp, h3⟩
end Go.Proofs.Ytmmonehpfmlmeaa

