import Derived.Test.YtebkfkijlopmoaaHs37
import Derived.Test.YtebkfkijlopmoaaHs33
/- The document's Encode. -/
namespace Go.Proofs.Ytebkfkijlopmoaa
open Go.RowKit SessionMath WireMath
set_option maxRecDepth 100000
set_option linter.unusedSimpArgs false
set_option linter.unusedVariables false

set_option maxHeartbeats 8000000 in
theorem renc_of (zs : List Sz) (lv : Value) (w : World) (hL : SeatsV w lv zs) (hm : mayB (mes zs) = true) : Calls Try.prog 18 #[lv] w fun e w' => ∃ v, e = .returned v ∧ Bn w' v (encB (mes zs)) ∧ Below w.heap.size w w' := by
  have HOKS : Hid (∀ r ∈ mes zs, seatB r = true) := (may_iff.1 hm).1
  have hl8 : zs.length ≤ 8 := by have := may_len hm; simpa using this
  have HL : Hid (SeatsV w lv zs) := hL
  obtain ⟨ao, cap, rfl, -, -⟩ := hL.1.shape
  have kU := Wi.refUvarint_of zs.length w (by omega)
  have hul := uv_len10 (n := zs.length) (by omega)
  have hwl : IntKind.u64.wrap (zs.length : Int) = (zs.length : Int) := IntWalk.u64_in _ (by omega)
  have HE : Hid (encB (mes zs) = uv zs.length ++ ((mes zs).take zs.length).flatMap rB) := by show _ = _; rw [List.take_of_length_le (by simp)]; unfold encB; rw [List.length_map]
  clear hL hm
  go_enter Try.func18, Try.ntmps18
  go_wp2_with fail
  refine kU.mono ?_
  rintro e w2 ⟨v2, rfl, hO2, hb2⟩
  have hOs : Wi.Own w.heap.size w2 v2 (uv zs.length ++ ((mes zs).take 0).flatMap rB) := by
    have e9 : uv zs.length = uv zs.length ++ ((mes zs).take 0).flatMap rB := by simp
    rw [e9] at hO2
    exact hO2
  clear kU hO2
  go_wp2
  go_loopg [3, 4] zs.length (fun gg s3 s4 wr => ∃ (i : Nat) (bv : Value), i + gg = zs.length ∧ s4 = .int .i64 (i : Int) ∧ bv = s3 ∧ Wi.Own w.heap.size wr bv (uv zs.length ++ ((mes zs).take i).flatMap rB) ∧ Below w.heap.size w wr)
  case atStart => exact ⟨0, _, by simp, rfl, rfl, hOs, hb2⟩
  case round =>
    obtain ⟨i, b0, hig, rfl, rfl, hO0, hb0⟩ := hrel
    clear hOs hb2
    by_cases hlt : i < zs.length
    · have hlti : (i : Int) < (zs.length : Int) := by omega
      have hx : zs[i]? = some zs[i] := List.getElem?_eq_getElem hlt
      obtain ⟨z, hzz⟩ : ∃ z, z = zs[i] := ⟨_, rfl⟩
      rw [← hzz] at hx
      clear hzz
      obtain ⟨b, off, rfl, cx⟩ := rds_at HL.out.1 hx
      have hzm := mes_at hx
      have hse := HOKS.out z.1 (List.mem_of_getElem? hzm)
      have HD : Hid (RepV w z) := HL.out.2 z (List.mem_of_getElem? hx)
      have HN : Hid (((mes zs).take (i + 1)).flatMap rB = ((mes zs).take i).flatMap rB ++ rB z.1) := flat_take hzm
      have hLi : (((mes zs).take i).flatMap rB).length ≤ 33600 := by
        have h9 := flat_len (l := (mes zs).take i) (fun r hr => HOKS.out r (List.mem_of_mem_take hr))
        rw [List.length_take, List.length_map] at h9
        omega
      have hzl := HD.out.len
      obtain ⟨⟨zc, P, sr⟩, sa, sn, sc⟩ := z
      obtain ⟨g1, g2, g3, g4, g5⟩ := seat_iff.1 hse
      dsimp only at *
      subst hzl
      obtain ⟨G, rfl⟩ : ∃ G : Nat, zc = (G : Int) := ⟨zc.toNat, by omega⟩
      have hu1 := uv_len10 (n := G) (by omega)
      have hu2 := uv_len10 (n := P) (by omega)
      have hu3 := uv_len10 (n := sr.length) (by omega)
      have hgw : IntKind.u64.wrap (G : Int) = (G : Int) := IntWalk.u64_in _ (by omega)
      have HR : Hid (rB ⟨(G : Int), P, sr⟩ = uv G ++ uv P ++ (uv sr.length ++ sr)) := by show _ = _; simp [rB, sB]
      have A0 : Hid (uv zs.length ++ ((mes zs).take (i + 1)).flatMap rB = (((uv zs.length ++ ((mes zs).take i).flatMap rB) ++ uv G) ++ uv P) ++ (uv sr.length ++ sr)) := by show _ = _; rw [HN.out, HR.out]; simp only [List.append_assoc]
      have hL0 : (uv zs.length ++ ((mes zs).take i).flatMap rB).length ≤ 34000 := by rw [List.length_append]; omega
      clear HN HR hx hzm hse hLi HL HOKS HE
      generalize (uv zs.length ++ ((mes zs).take i).flatMap rB) = L0 at *
      obtain ⟨x0, hx0⟩ : ∃ x0, x0 = wr := ⟨_, rfl⟩
      subst hx0
      obtain ⟨e10, e11, e12⟩ := cx x0 hb0
      have kB1 := Wi.refUvarint_of G x0 (by omega)
      go_wp2_with fail
      refine kB1.mono ?_
      rintro e y1 ⟨r1, rfl, hOr1, hbr1⟩
      have hby1 := hb0.trans (hbr1.mono hb0.size)
      have hOy1 := hO0.below hbr1
      have hrun1 : Hid _ := app_run hOy1 hby1.size hOr1.bs (by (try simp only [List.length_append]); omega)
      clear kB1 hO0 hbr1 hOr1 e10 e11 e12
      obtain ⟨ra1, rc1, hrs1⟩ := hOy1.shape
      subst hrs1
      go_wp2_with (at_builtin; refine wp_by rfl _ _ _ rfl _ _ rfl rfl hrun1.out ?_)
      intro b1 x1 hp1
      obtain ⟨hO1, hbp1⟩ := hp1
      have hb1 := hby1.trans hbp1
      have hL1 : (L0 ++ uv G).length ≤ 34100 := by simp only [List.length_append]; omega
      clear hOy1 hrun1 hbp1 hby1
      generalize (L0 ++ uv G) = L1 at *
      generalize L0.length = N1 at *
      obtain ⟨e20, e21, e22⟩ := cx x1 hb1
      have kB2 := Wi.refUvarint_of P x1 (by omega)
      go_wp2_with fail
      refine kB2.mono ?_
      rintro e y2 ⟨r2, rfl, hOr2, hbr2⟩
      have hby2 := hb1.trans (hbr2.mono hb1.size)
      have hOy2 := hO1.below hbr2
      have hrun2 : Hid _ := app_run hOy2 hby2.size hOr2.bs (by (try simp only [List.length_append]); omega)
      clear kB2 hO1 hbr2 hOr2 e20 e21 e22
      obtain ⟨ra2, rc2, hrs2⟩ := hOy2.shape
      subst hrs2
      go_wp2_with (at_builtin; refine wp_by rfl _ _ _ rfl _ _ rfl rfl hrun2.out ?_)
      intro b2 x2 hp2
      obtain ⟨hO2, hbp2⟩ := hp2
      have hb2 := hby2.trans hbp2
      have hL2 : (L1 ++ uv P).length ≤ 34200 := by simp only [List.length_append]; omega
      clear hOy2 hrun2 hbp2 hby2
      generalize (L1 ++ uv P) = L2 at *
      generalize L1.length = N2 at *
      obtain ⟨e30, e31, e32⟩ := cx x2 hb2
      have kB3 := Wi.refBytes_of _ sr (.slice sa sr.length sc) x2 (HD.out.below hb2) (Nat.le_refl _) (by omega)
      go_wp2_with fail
      refine kB3.mono ?_
      rintro e y3 ⟨r3, rfl, hOr3, hbr3⟩
      have hby3 := hb2.trans (hbr3.mono hb2.size)
      have hOy3 := hO2.below hbr3
      have hrun3 : Hid _ := app_run hOy3 hby3.size hOr3.bs (by (try simp only [List.length_append]); omega)
      clear kB3 hO2 hbr3 hOr3 e30 e31 e32
      obtain ⟨ra3, rc3, hrs3⟩ := hOy3.shape
      subst hrs3
      go_wp2_with (at_builtin; refine wp_by rfl _ _ _ rfl _ _ rfl rfl hrun3.out ?_)
      intro b3 x3 hp3
      obtain ⟨hO3, hbp3⟩ := hp3
      have hb3 := hby3.trans hbp3
      have hL3 : (L2 ++ (uv sr.length ++ sr)).length ≤ 39000 := by simp only [List.length_append]; omega
      clear hOy3 hrun3 hbp3 hby3
      generalize (L2 ++ (uv sr.length ++ sr)) = L3 at *
      generalize L2.length = N3 at *
      go_wp2
      go_roundg (gk - 1)
      case measure => omega
      case rel => exact ⟨i + 1, b3, by omega, by go_num, rfl, by rw [A0.out]; exact hO3, hb3⟩
    · have hlti : ¬ (i : Int) < (zs.length : Int) := by omega
      obtain rfl : i = zs.length := by omega
      rw [← HE.out] at hO0
      clear HE HL HOKS
      go_wp2
      go_ret
      exact ⟨_, rfl, hO0.bs, hb0⟩
end Go.Proofs.Ytebkfkijlopmoaa

