import Derived.Test.YtldlimakcdaoaaaHd46
/- The contract of the document's own Encode. -/
namespace Go.Proofs.Ytldlimakcdaoaaa
open Go.RowKit SpanMath ChartMath WireMath
set_option maxRecDepth 100000
set_option linter.unusedSimpArgs false
set_option linter.unusedVariables false

def AppB (n : Nat) (w : World) (L : List Nat) (v' : Value) (w' : World) : Prop := Wi.Own n w' v' L ∧ Below n w w'
theorem app_run {n n₁ : Nat} {w : World} {v xv : Value} {l r : List Nat} (h : Wi.Own n w v l) (hn : n ≤ w.heap.size) (hB : Wi.Bs n₁ w xv r) (hlen : l.length + r.length ≤ 140737488355328) :
    ∀ ty, ∃ v' w', (Builtin.append_ #[58, 58] ty #[v, xv]).run Try.prog w = .ok v' w' ∧ AppB n w (l ++ r) v' w' := fun ty => by
  obtain ⟨v', w', h1, h2, h3, _⟩ := Wi.run_append_bs w ty n v l h hn n₁ xv r hB hlen
  exact ⟨v', w', h1, h2, h3⟩

set_option maxHeartbeats 8000000 in
theorem renc_of (l : List Rg) (lv : Value) (w : World) (hF : Cv w lv l) (hC : Chart l) : Calls Try.prog 34 #[lv] w fun e w' => ∃ v, e = .returned v ∧ Bn w' v (encB l) ∧ Below w.heap.size w w' := by
  have hl64 := hC.len
  obtain ⟨ao, cap, rfl, -⟩ := id hF
  have kU := Wi.refUvarint_of l.length w (by omega)
  have hul := uv_len10 (n := l.length) (by omega)
  have hwl : IntKind.u64.wrap (l.length : Int) = (l.length : Int) := IntWalk.u64_in _ (by omega)
  have HE : Hid (encB l = uv l.length ++ (l.take l.length).flatMap rB) := by show _ = _; rw [List.take_length]; rfl
  go_enter Try.func34, Try.ntmps34
  go_wp2_with fail
  refine kU.mono ?_
  rintro e w2 ⟨v2, rfl, hO2, hb2⟩
  have hOs : Wi.Own w.heap.size w2 v2 (uv l.length ++ (l.take 0).flatMap rB) := by
    have e9 : uv l.length = uv l.length ++ (l.take 0).flatMap rB := by simp
    rw [e9] at hO2
    exact hO2
  clear kU hO2
  go_wp2
  go_loopg [3, 4] l.length (fun gg s3 s4 wr => ∃ (i : Nat) (bv : Value), i + gg = l.length ∧ s4 = .int .i64 (i : Int) ∧ bv = s3 ∧ Wi.Own w.heap.size wr bv (uv l.length ++ (l.take i).flatMap rB) ∧ Below w.heap.size w wr)
  case atStart => exact ⟨0, _, by simp, rfl, rfl, hOs, hb2⟩
  case round =>
    obtain ⟨i, b0, hig, rfl, rfl, hO0, hb0⟩ := hrel
    clear hOs hb2
    by_cases hlt : i < l.length
    · have hlti : (i : Int) < (l.length : Int) := by omega
      have hx : l[i]? = some l[i] := List.getElem?_eq_getElem hlt
      obtain ⟨b, off, rfl, cx⟩ := cv_at hF hx
      obtain ⟨s, hs⟩ : ∃ s, s = l[i] := ⟨_, rfl⟩
      rw [← hs] at hx cx
      have hok := hC.ok s (List.mem_of_getElem? hx)
      have HN : Hid ((l.take (i + 1)).flatMap rB = (l.take i).flatMap rB ++ rB s) := flat_take hx
      have hLi : ((l.take i).flatMap rB).length ≤ 12800 := by
        have h9 := flat_len (l := l.take i) (fun r hr => hC.ok r (List.mem_of_mem_take hr))
        rw [List.length_take] at h9
        omega
      obtain ⟨⟨s1, s2⟩, sg, se⟩ := s
      simp only [rOk, gOk, eOk, Bool.and_eq_true, decide_eq_true_eq] at hok
      obtain ⟨⟨hmay, hg1, hg2⟩, he1, he2⟩ := hok
      obtain ⟨⟨hf1, ht1⟩, _⟩ := may_iff.1 hmay
      dsimp only at hf1 ht1 cx hg1 hg2 he1 he2
      obtain ⟨G, rfl⟩ : ∃ G : Nat, sg = (G : Int) := ⟨sg.toNat, by omega⟩
      obtain ⟨P, rfl⟩ : ∃ P : Nat, se = (P : Int) := ⟨se.toNat, by omega⟩
      have HR : Hid (rB ((s1, s2), (G : Int), (P : Int)) = (uv (kb s1).length ++ kb s1) ++ (uv (kb s2).length ++ kb s2) ++ uv G ++ uv P) := by show _ = _; simp [rB, sB]
      have hk1 : (kb s1).length ≤ 64 := by rw [kb_len]; omega
      have hk2 : (kb s2).length ≤ 64 := by rw [kb_len]; omega
      have hu1 := uv_len10 (n := (kb s1).length) (by omega)
      have hu2 := uv_len10 (n := (kb s2).length) (by omega)
      have hu3 := uv_len10 (n := G) (by omega)
      have hu4 := uv_len10 (n := P) (by omega)
      have hgw : IntKind.u64.wrap (G : Int) = (G : Int) := IntWalk.u64_in _ (by omega)
      have A0 : Hid (uv l.length ++ (l.take (i + 1)).flatMap rB = ((((uv l.length ++ (l.take i).flatMap rB) ++ (uv (kb s1).length ++ kb s1)) ++ (uv (kb s2).length ++ kb s2)) ++ uv G) ++ uv P) := by show _ = _; rw [HN.out, HR.out]; simp only [List.append_assoc]
      have hL0 : (uv l.length ++ (l.take i).flatMap rB).length ≤ 13000 := by rw [List.length_append]; omega
      clear HN HR hs hx hmay hLi
      generalize (uv l.length ++ (l.take i).flatMap rB) = L0 at *
      obtain ⟨x0, hx0⟩ : ∃ x0, x0 = wr := ⟨_, rfl⟩
      subst hx0
      obtain ⟨v1, c1w, hcv1, hT1⟩ := conv_at x0 s1 (by omega)
      have HC1 : Hid (CvT x0 s1 v1 c1w) := hT1
      obtain ⟨e10, e11, e12, e13⟩ := cx x0 hb0
      clear hT1
      go_wp2_with fail
      obtain ⟨hB1, hbc1⟩ := HC1.out
      have hbd1 := hb0.trans (hbc1.mono hb0.size)
      have hOd1 := hO0.below hbc1
      have kB1 := Wi.refBytes_of _ (kb s1) v1 c1w hB1 (Nat.le_refl _) (by omega)
      clear HC1 hcv1 hB1 hO0 hbc1 e10 e11 e12 e13
      refine kB1.mono ?_
      rintro e y1 ⟨r1, rfl, hOr1, hbr1⟩
      have hby1 := hbd1.trans (hbr1.mono hbd1.size)
      have hOy1 := hOd1.below hbr1
      have hrun1 : Hid _ := app_run hOy1 hby1.size hOr1.bs (by simp only [List.length_append]; omega)
      clear kB1 hOd1 hbr1 hOr1
      obtain ⟨ra1, rc1, hrs1⟩ := hOy1.shape
      subst hrs1
      go_wp2_with (at_builtin; refine wp_by rfl _ _ _ rfl _ _ rfl rfl hrun1.out ?_)
      intro b1 x1 hp1
      obtain ⟨hO1, hbp1⟩ := hp1
      have hb1 := hby1.trans hbp1
      have hL1 : (L0 ++ (uv (kb s1).length ++ kb s1)).length ≤ 13100 := by simp only [List.length_append]; omega
      clear hOy1 hrun1 hbp1 hby1 hbd1
      generalize (L0 ++ (uv (kb s1).length ++ kb s1)) = L1 at *
      generalize L0.length = N0 at *
      obtain ⟨v2, c2w, hcv2, hT2⟩ := conv_at x1 s2 (by omega)
      have HC2 : Hid (CvT x1 s2 v2 c2w) := hT2
      obtain ⟨e20, e21, e22, e23⟩ := cx x1 hb1
      clear hT2
      go_wp2_with fail
      obtain ⟨hB2, hbc2⟩ := HC2.out
      have hbd2 := hb1.trans (hbc2.mono hb1.size)
      have hOd2 := hO1.below hbc2
      have kB2 := Wi.refBytes_of _ (kb s2) v2 c2w hB2 (Nat.le_refl _) (by omega)
      clear HC2 hcv2 hB2 hO1 hbc2 e20 e21 e22 e23
      refine kB2.mono ?_
      rintro e y2 ⟨r2, rfl, hOr2, hbr2⟩
      have hby2 := hbd2.trans (hbr2.mono hbd2.size)
      have hOy2 := hOd2.below hbr2
      have hrun2 : Hid _ := app_run hOy2 hby2.size hOr2.bs (by simp only [List.length_append]; omega)
      clear kB2 hOd2 hbr2 hOr2
      obtain ⟨ra2, rc2, hrs2⟩ := hOy2.shape
      subst hrs2
      go_wp2_with (at_builtin; refine wp_by rfl _ _ _ rfl _ _ rfl rfl hrun2.out ?_)
      intro b2 x2 hp2
      obtain ⟨hO2, hbp2⟩ := hp2
      have hb2 := hby2.trans hbp2
      have hL2 : (L1 ++ (uv (kb s2).length ++ kb s2)).length ≤ 13200 := by simp only [List.length_append]; omega
      clear hOy2 hrun2 hbp2 hby2 hbd2
      generalize (L1 ++ (uv (kb s2).length ++ kb s2)) = L2 at *
      generalize L1.length = N1 at *
      obtain ⟨e30, e31, e32, e33⟩ := cx x2 hb2
      have kB3 := Wi.refUvarint_of G x2 (by omega)
      go_wp2_with fail
      refine kB3.mono ?_
      rintro e y3 ⟨r3, rfl, hOr3, hbr3⟩
      have hby3 := hb2.trans (hbr3.mono hb2.size)
      have hOy3 := hO2.below hbr3
      have hrun3 : Hid _ := app_run hOy3 hby3.size hOr3.bs (by omega)
      clear kB3 hO2 hbr3 hOr3 e30 e31 e32 e33
      obtain ⟨ra3, rc3, hrs3⟩ := hOy3.shape
      subst hrs3
      go_wp2_with (at_builtin; refine wp_by rfl _ _ _ rfl _ _ rfl rfl hrun3.out ?_)
      intro b3 x3 hp3
      obtain ⟨hO3, hbp3⟩ := hp3
      have hb3 := hby3.trans hbp3
      have hL3 : (L2 ++ uv G).length ≤ 13300 := by simp only [List.length_append]; omega
      clear hOy3 hrun3 hbp3 hby3
      generalize (L2 ++ uv G) = L3 at *
      generalize L2.length = N2 at *
      obtain ⟨e40, e41, e42, e43⟩ := cx x3 hb3
      have kB4 := Wi.refUvarint_of P x3 (by omega)
      go_wp2_with fail
      refine kB4.mono ?_
      rintro e y4 ⟨r4, rfl, hOr4, hbr4⟩
      have hby4 := hb3.trans (hbr4.mono hb3.size)
      have hOy4 := hO3.below hbr4
      have hrun4 : Hid _ := app_run hOy4 hby4.size hOr4.bs (by omega)
      clear kB4 hO3 hbr4 hOr4 e40 e41 e42 e43
      obtain ⟨ra4, rc4, hrs4⟩ := hOy4.shape
      subst hrs4
      go_wp2_with (at_builtin; refine wp_by rfl _ _ _ rfl _ _ rfl rfl hrun4.out ?_)
      intro b4 x4 hp4
      obtain ⟨hO4, hbp4⟩ := hp4
      have hb4 := hby4.trans hbp4
      have hL4 : (L3 ++ uv P).length ≤ 13400 := by simp only [List.length_append]; omega
      clear hOy4 hrun4 hbp4 hby4
      generalize (L3 ++ uv P) = L4 at *
      generalize L3.length = N3 at *
      go_wp2
      go_roundg (gk - 1)
      case measure => omega
      case rel => exact ⟨i + 1, b4, by omega, by go_num, rfl, by rw [A0.out]; exact hO4, hb4⟩
    · have hlti : ¬ (i : Int) < (l.length : Int) := by omega
      obtain rfl : i = l.length := by omega
      rw [← HE.out] at hO0
      clear HE hF hC
      go_wp2
      go_ret
      exact ⟨_, rfl, hO0.bs, hb0⟩
end Go.Proofs.Ytldlimakcdaoaaa

