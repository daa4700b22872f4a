import Derived.Test.YtfbmeeankkfjbaaHq11
import Derived.Test.YtfbmeeankkfjbaaHq23
/- The law QuorumCommits. -/
namespace Go.Proofs.Ytfbmeeankkfjbaa
open Go.RowKit QuorumMath
set_option maxRecDepth 100000
set_option linter.unusedSimpArgs false
set_option linter.unusedVariables false

theorem append_peer {w : World} {v x : Value} {xs ys : List Pr} (h : Rk peerE w 43 v xs) (hx : Rd peerE w x ys) (hlen : xs.length ≤ 1000000) (hly : ys.length ≤ 1000000) :
    ∀ ty, ∃ v' w', (Builtin.append_ #[29, 29] ty #[v, x]).run Try.prog w = .ok v' w' ∧ PushT peerE 43 w v (xs ++ ys) v' w' := by
  obtain ⟨i0, h1, h2, h3, h4⟩ := info_get infoPeer
  exact append_rd peerE w 29 43 i0 _ 24 Try.underlying29 h1 h2 h3 h4 rfl (by decide) v x xs ys h hx hlen hly
/-- 'append([]api.Peer{}, l...)': the world in which it is made. -/
theorem copy_peer {w : World} {x : Value} {ys : List Pr} (hx : Rd peerE w x ys) (hly : ys.length ≤ 1000000) :
    ∀ ty, ∃ v' w', (Builtin.append_ #[29, 29] ty #[.slice (some ⟨w.heap.size, 0, none⟩) 0 0, x]).run Try.prog (w.alloc (.cells #[] 43)) = .ok v' w' ∧ CopyT peerE 43 w ys v' w' := by
  intro ty
  obtain ⟨q1, q2, q3⟩ := one_box w (.cells #[] 43)
  have hO : Ow peerE 43 w.heap.size (w.alloc (.cells #[] 43)) (.slice (some ⟨w.heap.size, 0, none⟩) 0 0) [] := ⟨Rk.made (xs := []) q2 rfl (by unfold maxLen; simp), fun k hk => by cases hk; exact Nat.le_refl _⟩
  obtain ⟨v', w', h1, h2⟩ := append_peer hO.1 (hx.below q3) (by simp) hly ty
  obtain ⟨h3, h4⟩ := hO.push (by rw [q1]; omega) h2
  exact ⟨v', w', h1, h3, q3.trans h4⟩

set_option maxHeartbeats 4000000 in
theorem commits_law (v : List Int) (vv : Value) (ps : List Pr) (pv : Value) (w : World) (hV : Rd intE w vv v) (hlv : v.length * 8 ≤ 140737488355328) (hP : Rd peerE w pv ps) (hlp : ps.length * 24 ≤ 140737488355328) : Calls Try.prog 5 #[vv, pv] w fun e w' => e = .returned (.bool true) ∧ Below w.heap.size w w' := by
  have ka := fun W => awake_of W
  by_cases h300 : 300 < ps.length
  · have h300i : (300 : Int) < (ps.length : Int) := by omega
    obtain ⟨pa, pc, rfl, -, -⟩ := hP.shape
    obtain ⟨va, vcap, rfl, -, -⟩ := hV.shape
    clear hP hV
    go_enter Try.func5, Try.ntmps5
    go_wp2_with fail
    refine (ka _).mono ?_
    rintro e w1 ⟨rfl, hb1⟩
    go_wp2
    go_ret
    exact ⟨rfl, hb1⟩
  · have h300i : ¬ (300 : Int) < (ps.length : Int) := by omega
    have kc := fun W u (hW : Below w.heap.size w W) (hu : Rd peerE W u ps) => commit_of v vv ps u W (hV.below hW) hu (by omega) (by omega)
    have kr := fun W (hW : Below w.heap.size w W) => rcommit_of v vv ps pv W (hV.below hW) (hP.below hW) (by omega) (by omega)
    have hrunH : Hid _ := copy_peer hP (by omega)
    obtain ⟨pa, pc, rfl, -, -⟩ := hP.shape
    obtain ⟨va, vcap, rfl, -, -⟩ := hV.shape
    clear hP hV
    generalize comM v ps = C at *
    go_enter Try.func5, Try.ntmps5
    go_wp2_with (at_builtin; refine wp_by rfl _ _ _ rfl _ _ rfl rfl hrunH.out ?_)
    intro u w1 hp1
    obtain ⟨hO1, hb1⟩ := hp1
    have kc1 := kc w1 u hb1 hO1.1.rd
    clear kc hrunH
    obtain ⟨ua, uc, rfl, -, -⟩ := hO1.1.rd.shape
    go_wp2_with fail
    refine (kc1).mono ?_
    rintro e w2 ⟨rfl, hb2⟩
    have hb02 := hb1.trans (hb2.mono hb1.size)
    have kr1 := kr w2 hb02
    clear kr kc1 hO1
    go_wp2_with fail
    refine (kr1).mono ?_
    rintro e w3 ⟨rfl, hb3⟩
    have hb03 := hb02.trans (hb3.mono hb02.size)
    clear kr1
    go_wp2_with fail
    refine (ka _).mono ?_
    rintro e w4 ⟨rfl, hb4⟩
    go_wp2
    go_ret
    exact ⟨rfl, hb03.trans (hb4.mono hb03.size)⟩
end Go.Proofs.Ytfbmeeankkfjbaa

