import Derived.Test.YtfbmeeankkfjbaaHq08
import Derived.Test.YtfbmeeankkfjbaaHq09
/- The contract of Commit. -/
namespace Go.Proofs.Ytfbmeeankkfjbaa
open Go.RowKit Go.Sort QuorumMath
set_option maxRecDepth 100000
set_option linter.unusedSimpArgs false
set_option linter.unusedVariables false

theorem srtN_perm (l : List Nat) : (srtN l).Perm l := List.mergeSort_perm _ _
theorem srtN_len (l : List Nat) : (srtN l).length = l.length := (srtN_perm l).length_eq
theorem srtN_ris (l : List Nat) : (srtN l).Pairwise (· ≤ ·) := by
  have h := List.pairwise_mergeSort (le := fun x y : Nat => !ltN y x) (by intro a b c; simp [ltN]; omega) (by intro a b; simp [ltN]; omega) l
  exact h.imp (by intro a b; simp [ltN])
/-- What a majority has stands in the sorted row. -/
theorem best_srt {ms : List Nat} (hne : 0 < ms.length) {c : Nat} (hc : (srtN ms)[ms.length - (ms.length / 2 + 1)]? = some c) : bestFrom ms 0 ms = c := by
  have hr : (srtN ms).reverse.Pairwise (fun a b => b ≤ a) := by
    rw [List.pairwise_reverse]
    exact srtN_ris ms
  have hl := srtN_len ms
  have h1 := best_sorted hr (by rw [List.length_reverse, hl]; exact hne)
  have hp : (srtN ms).reverse.Perm ms := (List.reverse_perm _).trans (srtN_perm ms)
  have h2 := best_one (bestFrom_best ms) (best_perm hp h1)
  rw [h2, List.getElem_reverse]
  obtain ⟨h3, h4⟩ := List.getElem?_eq_some_iff.1 hc
  rw [← h4]
  congr 1
  rw [List.length_reverse, hl]
  omega

set_option maxHeartbeats 2000000 in
theorem pdq64_of (l : List Nat) (g cap n₀ : Nat) (lim : Int) (w : World) (hO : Ow natE 30 n₀ w (.slice (some ⟨g, 0, none⟩) l.length cap) l) (hl : l.length ≤ 12) :
    Calls Try.prog 36 #[.slice (some ⟨g, 0, none⟩) l.length cap, .int .i64 0, .int .i64 (l.length : Int), .int .i64 lim] w fun e w' => e = .returned (.tuple #[]) ∧ Ow natE 30 n₀ w' (.slice (some ⟨g, 0, none⟩) l.length cap) (srtN l) ∧ Below n₀ w w' := by
  have ki := insertion64_of l g cap n₀ w hO hl
  have hli : (l.length : Int) ≤ 12 := by omega
  clear hO
  go_enter Try.func36, Try.ntmps36
  go_wp2
  go_loopg [1, 2] 1 (fun gh s1 s2 wr => s1 = .int .i64 0 ∧ s2 = .int .i64 (l.length : Int) ∧ wr = w)
  case atStart => exact ⟨rfl, rfl, rfl⟩
  case round =>
    obtain ⟨rfl, rfl, rfl⟩ := hrel
    go_wp2_with fail
    refine ki.mono ?_
    rintro e w1 ⟨rfl, h1, h2⟩
    clear ki
    have H1 : Hid _ := And.intro h1 h2
    clear h1 h2
    go_wp2
    refine bodyPost_ret (results_none rfl _ _ _) rfl ?_
    exact ⟨rfl, H1.out⟩

theorem sort64_of (l : List Nat) (g cap n₀ : Nat) (w : World) (hO : Ow natE 30 n₀ w (.slice (some ⟨g, 0, none⟩) l.length cap) l) (hl : l.length ≤ 12) :
    Calls Try.prog 28 #[.slice (some ⟨g, 0, none⟩) l.length cap] w fun e w' => e = .returned (.tuple #[]) ∧ Ow natE 30 n₀ w' (.slice (some ⟨g, 0, none⟩) l.length cap) (srtN l) ∧ Below n₀ w w' := by
  have kp := fun lim => pdq64_of l g cap n₀ lim w hO hl
  have kb := Try.bits_Len (l.length : Int) w (by omega) (by omega)
  clear hO
  go_enter Try.func28, Try.ntmps28
  go_wp2_with fail
  refine kb.mono ?_
  rintro e w1 ⟨rfl, hw1⟩
  subst hw1
  go_wp2_with fail
  refine (kp _).mono ?_
  rintro e w2 ⟨rfl, h1, h2⟩
  have H1 : Hid _ := And.intro h1 h2
  clear h1 h2 kp kb
  go_wp2
  go_end0
  exact ⟨rfl, H1.out⟩

set_option maxHeartbeats 4000000 in
theorem commit_of (v : List Int) (vv : Value) (ps : List Pr) (pv : Value) (w : World) (hV : Rd intE w vv v) (hP : Rd peerE w pv ps) (hlv : v.length ≤ 1000000000000000) (hlp : ps.length ≤ 1000000) : Calls Try.prog 16 #[vv, pv] w fun e w' => e = .returned (.int .u64 (comM v ps : Nat)) ∧ Below w.heap.size w w' := by
  obtain ⟨C, HC⟩ : ∃ C, Hid (C = comM v ps) := ⟨_, rfl⟩
  rw [← HC.out]
  have kc := check_of v vv w hV hlv
  have km := fun x W (hW : Below w.heap.size w W) => matchOf_of ps pv x W (hP.below hW) hlp
  obtain ⟨va, vc, rfl, -, -⟩ := hV.shape
  obtain ⟨pa, pc, rfl, -, -⟩ := hP.shape
  clear hP
  cases hm : votB v with
  | false =>
    rw [hm] at kc
    have E : Hid (C = 0) := by show _ = _; rw [HC.out]; unfold comM; rw [hm]; rfl
    clear HC hm km hV
    go_enter Try.func16, Try.ntmps16
    go_wp2_with fail
    refine kc.mono ?_
    rintro e w1 ⟨rfl, hw1⟩
    subst hw1
    go_wp2
    go_ret
    exact ⟨by rw [E.out]; rfl, Below.refl _ _⟩
  | true =>
    rw [hm] at kc
    have hvv := votB_iff.1 hm
    have hl1 := hvv.1
    have hl7 := hvv.2.1
    have HC1 : Hid (C = bestFrom (v.map (mOf ps)) 0 (v.map (mOf ps))) := by show _ = _; rw [HC.out]; unfold comM; rw [hm]; rfl
    clear HC hm hvv
    go_enter Try.func16, Try.ntmps16
    go_wp2_with fail
    refine kc.mono ?_
    rintro e w1 ⟨rfl, hw1⟩
    subst hw1
    clear kc
    have hO0 := Ow.nil natE 30 w1.heap.size w1
    go_wp2
    obtain ⟨w, hw⟩ : ∃ w, w = w1 := ⟨_, rfl⟩
    subst hw
    go_loopg [5, 13] v.length (fun gh s5 s13 wr => ∃ (i : Nat) (st : Value), i + gh = v.length ∧ s13 = .int .i64 (i : Int) ∧ st = s5 ∧ Ow natE 30 w.heap.size wr st ((v.take i).map (mOf ps)) ∧ Below w.heap.size w wr)
    case atStart => exact ⟨0, _, by simp, rfl, rfl, hO0, Below.refl _ _⟩
    case round =>
      obtain ⟨i, st, hig, rfl, rfl, hO, hb⟩ := hrel
      clear hO0
      by_cases hlt : i < v.length
      · have hlti : (i : Int) < (v.length : Int) := by omega
        have hx : v[i]? = some v[i] := List.getElem?_eq_getElem hlt
        obtain ⟨x, hxx⟩ : ∃ x, x = v[i] := ⟨_, rfl⟩
        rw [← hxx] at hx
        clear hxx
        obtain ⟨b, off, rfl, c⟩ := rdi_at hV hx
        have c0 := c wr hb
        have km1 := km x wr hb
        have HS : Hid ((v.take (i + 1)).map (mOf ps) = (v.take i).map (mOf ps) ++ [mOf ps x]) := by show _ = _; rw [take_succ_get hx, List.map_append]; rfl
        have hml : ((v.take i).map (mOf ps)).length ≤ 1000 := by rw [List.length_map, List.length_take]; omega
        obtain ⟨sa, sc, hst, -⟩ := hO.1.shape
        generalize (v.take i).map (mOf ps) = L at *
        generalize mOf ps x = M at *
        subst hst
        clear c hx hV km HC1
        go_wp2_with fail
        refine km1.mono ?_
        rintro e w2 ⟨rfl, hb2⟩
        have hO2 := hO.below hb2
        have hb02 := hb.trans (hb2.mono hb.size)
        have hrunH : Hid _ := push_nat M hO2.1 (by omega)
        clear km1 hO hb2
        go_wp2_with (at_builtin; refine wp_by rfl _ _ _ rfl _ _ rfl rfl hrunH.out ?_)
        intro v6 w6 hp6
        obtain ⟨hO3, hb3⟩ := hO2.push hb02.size hp6
        rw [← HS.out] at hO3
        clear hO2 hrunH hp6 HS
        go_wp2
        go_roundg (gk - 1)
        case measure => omega
        case rel => exact ⟨i + 1, v6, by omega, by go_num, rfl, hO3, hb02.trans hb3⟩
      · have hlti : ¬ (i : Int) < (v.length : Int) := by omega
        obtain rfl : v.length = i := by omega
        rw [List.take_length] at hO
        obtain ⟨ms, hms⟩ : ∃ ms, ms = v.map (mOf ps) := ⟨_, rfl⟩
        have hmsl : ms.length = v.length := by rw [hms, List.length_map]
        rw [← hms] at HC1 hO
        obtain ⟨g, cp, cur, rfl, hle, -⟩ := hO.1.cells (by omega)
        have ks := sort64_of ms g cp w.heap.size wr hO (by omega)
        have kn := fun W => need_of (ms.length : Int) W (by omega)
        have hlen1 : 1 ≤ ms.length := by omega
        have hlen7 : ms.length ≤ 7 := by omega
        obtain ⟨c, hc⟩ : ∃ c, (srtN ms)[ms.length - (ms.length / 2 + 1)]? = some c := ⟨_, List.getElem?_eq_getElem (by rw [srtN_len]; omega)⟩
        have E : Hid (C = c) := by show _ = _; rw [HC1.out]; exact best_srt (by omega) hc
        have hsl := srtN_len ms
        have hnd : needM (ms.length : Int) = ((ms.length / 2 + 1 : Nat) : Int) := by unfold needM; rw [if_neg (by omega)]; omega
        rw [hnd] at kn
        obtain ⟨nd, hnd2⟩ : ∃ nd, nd = ms.length / 2 + 1 := ⟨_, rfl⟩
        rw [← hnd2] at kn hc
        have hndl : nd ≤ ms.length := by omega
        have hnd1 : 1 ≤ nd := by omega
        clear hnd hnd2 HC1 hmsl hms hV km hO
        generalize hLL : ms.length = m at *
        clear hLL
        go_wp2_with fail
        refine ks.mono ?_
        rintro e w2 ⟨rfl, hO2, hb2⟩
        have hb02 := hb.trans hb2
        obtain ⟨g', cp', cur', ev, -, -, -, -, -, hcell, -⟩ := hO2.1.cells (by omega)
        have e1 : g' = g := by cases ev; rfl
        subst e1
        have c0 := hcell (m - nd) c 0 hc (by decide)
        rw [show (m - nd) * natE.k + 0 = m - nd from Nat.mul_one _] at c0
        have c0' : w2.cell? ⟨g', m - nd, none⟩ = some (.int .u64 (c : Int)) := c0
        clear ev hcell hO2 ks c0 hc hb2
        go_wp2_with fail
        refine (kn _).mono ?_
        rintro e w3 ⟨rfl, hw3⟩
        subst hw3
        clear kn
        have i1 : (nd : Int) ≤ (m : Int) := by omega
        have i2 : ((m : Int) - (nd : Int)).toNat = m - nd := by omega
        have i3 : (m : Int) - (nd : Int) < (m : Int) := by omega
        go_wp2
        go_ret
        exact ⟨by rw [E.out]; rfl, hb02⟩
end Go.Proofs.Ytfbmeeankkfjbaa

