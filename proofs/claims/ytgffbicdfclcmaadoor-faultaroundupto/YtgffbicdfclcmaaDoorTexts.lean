/- The walk of the law FaultTexts: it answers true at every slice of causes whose text is no longer than a builder can hold, and what lay in memory before stays as it was. -/
import Derived.Test.YtgffbicdfclcmaaDoorRefText
import Derived.Test.YtgffbicdfclcmaaDoorRefs
import Derived.Test.YtgffbicdfclcmaaDoorDepth
import Derived.Test.YtgffbicdfclcmaaDoorAwake
import Derived.Deep.QuietTactic
import Derived.BigQuiet
import Derived.WalkSmall
namespace Go.Proofs.YtgffbicdfclcmaaDoor
open Go.RowKit
set_option maxRecDepth 100000
set_option linter.unusedSimpArgs false

theorem Causes.length {n₀ : Nat} {w : World} {a : Option Addr} {len cap : Nat} {zs : List (ByteArray × Int)} (h : Causes n₀ w (.slice a len cap) zs) : len = zs.length := by
  rcases h with ⟨_, _, h1, rfl⟩ | ⟨b, off, c, h1, _, _⟩
  · cases h1; rfl
  · cases h1; rfl

theorem isErr_nil_iff {w : World} {v : Value} {ys : List (ByteArray × Int)} (h : IsErr w v ys none) : (ys = [] ∧ v = .nilIface) ∨ (ys ≠ [] ∧ ∃ u x, v = .iface u x) := by
  cases ys with
  | nil => exact .inl ⟨rfl, h⟩
  | cons c r =>
    obtain ⟨b, inner, rfl, _, _⟩ := h
    exact .inr ⟨by simp, _, _, rfl⟩

set_option maxHeartbeats 4000000 in
theorem texts_law (zs : List (ByteArray × Int)) (a : Option Addr) (len cap : Nat) (w : World) (hg : Door w) (hC : Causes w.heap.size w (.slice a len cap) zs) (hcap : len ≤ cap) (hm : len ≤ 9223372036854775807)
    (hcs : ∀ c ∈ zs, c.2 ≤ 9223372036854775807) (hlen : (restB true (zs.take 200) none).length ≤ 140737488355328) :
    Calls Tryd.prog 3 #[.slice a len cap] w fun e w' => e = .returned (.bool true) ∧ Below w.heap.size w w' := by
  have hcut := cut_of w.heap.size zs a len cap w hC hcap hm
  go_enter Tryd.func3, Tryd.ntmps3
  go_wp2_with fail
  refine hcut.mono ?_
  rintro e wx ⟨a', len', cap', rfl, hC', hwx⟩
  subst hwx
  clear hcut hC
  have hyl : (zs.take 200).length ≤ 200 := by rw [List.length_take]; omega
  have hys : ∀ c ∈ zs.take 200, c.2 ≤ 9223372036854775807 := fun c h => hcs c (List.mem_of_mem_take h)
  clear hcs hm hcap
  generalize zs.take 200 = ys at hC' hyl hys hlen
  obtain rfl := hC'.length
  go_wp2_with fail
  refine (chain_of ys a' _ cap' wx (by omega) hC').mono ?_
  rintro e w1 ⟨v, rfl, he, b1⟩
  have g1 := hg.below b1
  go_wp2_with fail
  refine (ops_of ys none v w1 g1 he (by omega)).mono ?_
  rintro e w2 ⟨sv, rfl, hown, b2⟩
  have b2' := b1.trans (b2.mono b1.size)
  have e2 := he.below b2
  obtain ⟨hy, hv⟩ | ⟨hy, u, x, hv⟩ := isErr_nil_iff e2
  · subst hv
    subst hy
    obtain ⟨ao, capo, rfl⟩ : ∃ a cap, sv = .slice a 0 cap := by
      rcases hown.2 with ⟨hv, _⟩ | ⟨g, cap, cur, hv, _⟩
      · exact ⟨none, 0, hv⟩
      · exact ⟨_, cap, hv⟩
    clear hown b2 he
    go_wp2_with fail
    refine (depth_of [] none _ w2 (hg.below b2') e2 (by simp)).mono ?_
    rintro e w3 ⟨rfl, b3⟩
    have b3' := b2'.trans (b3.mono b2'.size)
    go_wp2_with fail
    refine wp_loop_rounds 1 ?_
    rw [rounds_succ]
    go_wp2_with fail
    refine (text_nil w3 (hg.below b3')).mono ?_
    rintro e w4 ⟨rfl, b4⟩
    have b4' := b3'.trans (b4.mono b3'.size)
    go_wp2_with fail
    refine (refText_of wx.heap.size [] _ _ cap' w4 (hC'.below b4') b4'.size (by simp) (by simp) (by simp [restB])).mono ?_
    rintro e w5 ⟨rfl, b5⟩
    have b5' := b4'.trans (b5.mono b4'.size)
    dsimp only [restB]
    go_wp2_with fail
    refine (awake_of w5 (hg.below b5')).mono ?_
    rintro e w6 ⟨rfl, b6⟩
    have b6' := b5'.trans (b6.mono b5'.size)
    go_wp2
    go_ret
    exact ⟨rfl, b6'⟩
  · subst hv
    have hpos : 0 < ys.length := List.length_pos_iff.2 hy
    obtain ⟨g, capo, rfl⟩ : ∃ g cap, sv = .slice (some ⟨g, 0, none⟩) ys.length cap := by
      rcases hown.2 with ⟨_, h0⟩ | ⟨g, cap, cur, hv, _⟩
      · omega
      · exact ⟨g, cap, hv⟩
    have hops : ∀ k, (h : k < ys.length) → w2.cell? ⟨g, k, none⟩ = some (.string ys[k].1) := fun k hk => by
      rw [hown.cellAt k (by omega)]
      simp [opCells, hk]
    have hgl : g < w2.heap.size := by
      have := hops 0 hpos
      rcases Nat.lt_or_ge g w2.heap.size with h' | h'
      · exact h'
      · simp [World.cell?, Array.getElem?_eq_none h'] at this
    have hz : ((ys.length : Int) == 0) = false := by simp; omega
    clear hown b2 he
    go_wp2_with fail
    refine (depth_of ys none _ w2 (hg.below b2') e2 (by omega)).mono ?_
    rintro e w3 ⟨rfl, b3⟩
    have b3' := b2'.trans (b3.mono b2'.size)
    obtain ⟨_, _, h1, h2⟩ | ⟨b, off, c, h1, hb, hc⟩ := hC'
    · exact absurd h2 hy
    cases h1
    have e3 := e2.below b3
    have hC3 : Causes wx.heap.size w3 (.slice (some ⟨b, off, none⟩) ys.length cap') ys := Causes.below b3' (.inr ⟨b, off, cap', rfl, hb, hc⟩)
    clear e2 g1
    go_wp2_with fail
    go_loopg [5] ys.length (fun m s5 wr => ∃ k : Nat, k + m = ys.length ∧ s5 = .int .i64 (k : Int) ∧ Below w3.heap.size w3 wr)
    case atStart => exact ⟨0, by simp, rfl, Below.refl _ _⟩
    case round =>
      obtain ⟨k, hk, rfl, hB⟩ := hrel
      by_cases hlt : k < ys.length
      · have hd0 : wr.cell? ⟨g, k, none⟩ = some (.string ys[k].1) := by
          rw [hB.cell (p := ⟨g, k, none⟩) (Nat.lt_of_lt_of_le hgl b3.size), b3.cell (p := ⟨g, k, none⟩) hgl]; exact hops k hlt
        have hd1 : wr.cell? ⟨b, off + k * 2, none⟩ = some (.string ys[k].1) := by
          rw [hB.cell (p := ⟨b, off + k * 2, none⟩) (Nat.lt_of_lt_of_le hb b3'.size), b3'.cell (p := ⟨b, off + k * 2, none⟩) hb]; exact (hc k hlt).1
        have hlt' : (k : Int) < (ys.length : Int) := by omega
        clear hc hops
        generalize ys[k].1 = op at hd0 hd1
        go_wp2
        go_quiet (fail)
        go_wp2
        go_roundg (gk - 1)
        case measure => omega
        case rel => exact ⟨k + 1, by omega, by go_num, below_drewN hB _⟩
      · have hge : (ys.length : Int) ≤ (k : Int) := by omega
        have bw := b3'.trans (hB.mono b3'.size)
        have er := e3.below hB
        have hT := text_of ys none _ wr (hg.below bw) er (.inl hy) hys (by simp) hlen
        clear hc hops e3 hk
        go_wp2_with fail
        refine hT.mono ?_
        rintro e w4 ⟨rfl, b4⟩
        have b4' := bw.trans (b4.mono bw.size)
        clear hT
        go_wp2_with fail
        refine (refText_of wx.heap.size ys _ _ cap' w4 (Causes.below ((hB.mono b3'.size).trans (b4.mono bw.size)) hC3) b4'.size (by omega) hys hlen).mono ?_
        rintro e w5 ⟨rfl, b5⟩
        have b5' := b4'.trans (b5.mono b4'.size)
        go_wp2_with fail
        refine (awake_of w5 (hg.below b5')).mono ?_
        rintro e w6 ⟨rfl, b6⟩
        have b6' := b5'.trans (b6.mono b5'.size)
        go_wp2
        go_ret
        exact ⟨rfl, b6'⟩
end Go.Proofs.YtgffbicdfclcmaaDoor
