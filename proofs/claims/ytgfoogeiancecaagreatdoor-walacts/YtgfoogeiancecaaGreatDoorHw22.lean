import Derived.Test.YtgfoogeiancecaaGreatDoorHw13
import Derived.Test.YtgfoogeiancecaaGreatDoorHw07
import Derived.Test.YtgfoogeiancecaaGreatDoorHw21
import Derived.Deep.RegionHeld3
/- The contract of the program's next: the record at the beginning of bytes, in new memory. -/
namespace Go.Proofs.YtgfoogeiancecaaGreatDoor.Fr
open Go.RowKit WireMath CrcMath FrameMath WalMath
set_option maxRecDepth 100000
set_option linter.unusedSimpArgs false
set_option linter.unusedVariables false

theorem results_rec {fn : Func} {p u x : Tmp} (h : fn.results = #[.cell p 44, .tmp u, .tmp x]) (tmps : Array Value) (w : World) (g : Nat) (a b : Value)
    (hp : tmps.getD p undef = .pointer (some ⟨g, 0, none⟩)) (hg : w.heap[g]? = some (.cells #[a, b] 44 (0, 0))) :
    (results fn tmps).run Tryz.prog w = .ok (.tuple #[.agg #[a, b], tmps.getD u undef, tmps.getD x undef]) w := by
  have hp' : tmps[p]?.getD undef = .pointer (some ⟨g, 0, none⟩) := by simpa using hp
  simp [results, h, hp', asAddr, run_loadVar_row w g 44 44 #[a, b] (0, 0) _ hg Tryz.underlying44 rfl (by kernel_rfl)]
theorem rec_set {w : World} {g : Nat} {a b : Value} {t : TypeId} (h : w.heap[g]? = some (.cells #[a, b] t (0, 0))) (x y : Value) : ((w.setCell ⟨g, 0, none⟩ x).setCell ⟨g, 1, none⟩ y).heap[g]? = some (.cells #[x, y] t (0, 0)) := by
  simp [World.setCell, Array.getElem?_modify, h]

/-- What next tells. -/
def OneT (w : World) (o : Option (Rec × Nat)) (e : Ending) (w' : World) : Prop :=
  Below w.heap.size w w' ∧ match o with
  | none => e = .returned (.tuple #[.agg #[.int .u64 0, .slice none 0 0], .int .i64 0, .bool false])
  | some (r, n) => ∃ v, e = .returned (.tuple #[.agg #[.int .u64 (r.index : Int), v], .int .i64 (n : Int), .bool true]) ∧ Bs w'.heap.size w' v r.data ∧ (∀ j, v.ownBlock = some j → w.heap.size ≤ j ∧ j < w'.heap.size)

theorem oneT_none {w w1 : World} {o : Option (Rec × Nat)} (ho : o = none) (hb : Below w.heap.size w w1) :
    OneT w o (.returned (.tuple #[.agg #[.int .u64 0, .slice none 0 0], .int .i64 0, .bool false])) ((w1.setCell ⟨w.heap.size, 0, none⟩ (.int .u64 0)).setCell ⟨w.heap.size, 1, none⟩ (.slice none 0 0)) := by
  subst ho
  exact ⟨(hb.setCell (p := ⟨w.heap.size, 0, none⟩) (Nat.le_refl _) _).setCell (p := ⟨w.heap.size, 1, none⟩) (Nat.le_refl _) _, rfl⟩
theorem oneT_some {w w1 : World} {o : Option (Rec × Nat)} {r : Rec} {n : Nat} (ho : o = some (r, n)) (hb : Below w.heap.size w w1) (v : Value) (hB : Bs w1.heap.size w1 v r.data) (hv : ∀ j, v.ownBlock = some j → w.heap.size + 1 ≤ j ∧ j < w1.heap.size) :
    OneT w o (.returned (.tuple #[.agg #[.int .u64 (r.index : Int), v], .int .i64 (n : Int), .bool true])) ((w1.setCell ⟨w.heap.size, 0, none⟩ (.int .u64 (r.index : Int))).setCell ⟨w.heap.size, 1, none⟩ v) := by
  subst ho
  have hsz : ((w1.setCell ⟨w.heap.size, 0, none⟩ (.int .u64 (r.index : Int))).setCell ⟨w.heap.size, 1, none⟩ v).heap.size = w1.heap.size := by simp [World.setCell]
  refine ⟨(hb.setCell (p := ⟨w.heap.size, 0, none⟩) (Nat.le_refl _) _).setCell (p := ⟨w.heap.size, 1, none⟩) (Nat.le_refl _) _, v, rfl, ?_, fun j hj => ?_⟩
  · rw [hsz]
    refine hB.grown (row := some w.heap.size) ((Kp.set w.heap.size 0 _ w1).trans (Kp.set w.heap.size 1 _ _)) (fun g hg e => ?_)
    have := (hv g hg).1
    cases e
    omega
  · rw [hsz]
    have := hv j hj
    omega

theorem next_err_ne {l : List Nat} {e : Nat} (h : next l = .error e) : e ≠ 0 := by
  unfold next at h
  split at h
  · unfold body at h
    repeat' split at h
    all_goals first | (cases h; done) | (cases h; decide)
  · split at h <;> (cases h; decide)

set_option maxHeartbeats 4000000 in
theorem one_of (n₀ : Nat) (l : List Nat) (v : Value) (w : World) (hT : Tab w) (hB : Bs n₀ w v l) (hl : ∀ c ∈ l, c < 256) (hn₀ : n₀ ≤ w.heap.size) (hlen : l.length ≤ 1000000) :
    Calls Tryz.prog 80 #[v] w (OneT w (one l)) := by
  obtain ⟨ao, cap, rfl, h2, h3, h4, h5⟩ := id hB
  have hb0 := (Below.refl w.heap.size w).alloc (Nat.le_refl _) (.cells #[.int .u64 0, .slice none 0 0] 44)
  have hbk0 := heap_alloc_new w (.cells #[.int .u64 0, .slice none 0 0] 44)
  have hsz0 : (w.alloc (.cells #[.int .u64 0, .slice none 0 0] 44)).heap.size = w.heap.size + 1 := by simp
  have kn := next_of n₀ l _ (w.alloc (.cells #[.int .u64 0, .slice none 0 0] 44)) (hT.below' hb0 (Nat.le_refl _)) (hB.below (hb0.mono hn₀)) hl (Nat.le_trans hn₀ hb0.size)
  obtain ⟨o, HO⟩ : ∃ o, Hid (o = one l) := ⟨_, rfl⟩
  rw [← HO.out]
  have fin0 : ∀ w1, o = none → Below w.heap.size w w1 → Hid (OneT w o _ _) := fun w1 ho hb => oneT_none (w1 := w1) ho hb
  have fin1 : ∀ w1 (r : Rec) n v, o = some (r, n) → Below w.heap.size w w1 → Bs w1.heap.size w1 v r.data → (∀ j, v.ownBlock = some j → w.heap.size + 1 ≤ j ∧ j < w1.heap.size) → Hid (OneT w o _ _) := fun w1 r n v ho hb hB hv => oneT_some (w1 := w1) ho hb v hB hv
  generalize OneT w o = T at *
  cases hx : next l with
  | error e =>
    have ho : o = none := by rw [HO.out]; unfold one; rw [hx]
    have he : e ≠ 0 := next_err_ne hx
    rw [hx] at kn
    have hei : ¬ (e : Int) = 0 := by omega
    have hej : ((e : Int) != 0) = true := by simp; omega
    clear HO hB hT
    go_enter Tryz.func80, Tryz.ntmps80
    go_wp2_with fail
    refine kn.mono ?_
    rintro e' w1 ⟨v', rfl, hB', hv', hb1⟩
    have hblk := (hb1.block w.heap.size (by rw [hsz0]; omega)).trans hbk0
    have c0 : w1.cell? ⟨w.heap.size, 0, none⟩ = some (.int .u64 0) := by rw [cells_of_block hblk]; rfl
    have c1 : w1.cell? ⟨w.heap.size, 1, none⟩ = some (.slice none 0 0) := by rw [cells_of_block hblk]; rfl
    have f0 := frozen_of hblk 0
    have f1 := frozen_of hblk 1
    have hfin := fin0 w1 ho (hb0.trans (hb1.mono hb0.size))
    have hblk' : Hid (w1.heap[w.heap.size]? = _) := hblk
    clear kn hB' hv' fin0 fin1 hblk
    simp only [nxV]
    go_wp2
    (try simp only [Exit.inBlock, Exit.then])
    refine bodyPost_ret (results_rec rfl _ _ w.heap.size _ _ rfl (rec_set hblk'.out _ _)) rfl ?_
    exact hfin.out
  | ok x =>
    obtain ⟨k, d, n⟩ := x
    have hf := next_ok_facts hx
    have hd : ∀ c ∈ d, c < 256 := fun c hc => hl c (hf.2.2.2 c hc)
    rw [hx] at kn
    by_cases hk : k = 1
    · subst hk
      obtain ⟨N, hN⟩ : ∃ N, N = uvN d 0 0 := ⟨_, rfl⟩
      have hNlt : N < 18446744073709551616 := by rw [hN]; exact uvN_lt hd
      obtain ⟨m, hm⟩ : ∃ m, m = uvA d 0 0 := ⟨_, rfl⟩
      have hsrc : src d 0 0 = d := by simp [src]
      have hone : o = if N = 0 ∨ 4096 < d.length - m then none else some (⟨N, d.drop m⟩, n) := by
        rw [HO.out, hN, hm]
        unfold one uvN uvA
        rw [hx, hsrc]
        dsimp only
        rw [if_pos rfl]
        cases hr : rd 10 0 0 d with
        | none => simp
        | some y => simp
      have hmd : m ≤ d.length := by
        rw [hm]
        unfold uvA
        rw [hsrc]
        cases hr : rd 10 0 0 d with
        | none => simp
        | some y =>
          have := (rd_facts hd (n := y.1) (k := y.2) hr).2.2.2
          simpa using this
      have hdl : d.length ≤ 1000000 := by omega
      go_enter Tryz.func80, Tryz.ntmps80
      go_wp2_with fail
      refine kn.mono ?_
      rintro e' w1 ⟨v', rfl, hB', hv', hb1⟩
      have hblk := (hb1.block w.heap.size (by rw [hsz0]; omega)).trans hbk0
      have kr := read_of w1.heap.size d v' w1 hB' (Nat.le_refl _) (by omega)
      have hbw1 : Below w.heap.size w w1 := hb0.trans (hb1.mono hb0.size)
      rw [hsz0] at hv'
      simp only [nxD] at hB'
      clear kn hB hT HO
      simp only [nxV]
      go_wp2_with fail
      refine kr.mono ?_
      rintro e' w2 ⟨q, rfl, hq, hR, hb2⟩
      have ku := uvarint_m q d 0 0 w2 hR hd
      rw [← hN, ← hm] at ku
      clear kr
      go_wp2_with fail
      refine ku.mono ?_
      rintro e' w3 ⟨rfl, hR3, hK3⟩
      have hbw2 : Below w1.heap.size w1 w3 := hb2.trans (hK3.below hq hb2.size)
      have hbw3 : Below w.heap.size w w3 := hbw1.trans (hbw2.mono hbw1.size)
      have hblk3 := (hbw2.block w.heap.size (by have := hb1.size; omega)).trans hblk
      have kl := left_of q d m _ w3 hR3
      have hB3 := (hB'.below hbw2).mono hbw2.size
      have hv3 : ∀ j, v'.ownBlock = some j → w.heap.size + 1 ≤ j ∧ j < w3.heap.size := fun j hj => by
        have := hv' j hj
        have := hbw2.size
        omega
      clear ku hR hK3 hb2 hB' hv' hblk hb1 hbw1
      by_cases hN0 : N = 0
      · have ho : o = none := by rw [hone, if_pos (.inl hN0)]
        have hNi : ((N : Int) == 0) = true := by simp; omega
        have c0 : w3.cell? ⟨w.heap.size, 0, none⟩ = some (.int .u64 0) := by rw [cells_of_block hblk3]; rfl
        have c1 : w3.cell? ⟨w.heap.size, 1, none⟩ = some (.slice none 0 0) := by rw [cells_of_block hblk3]; rfl
        have f0 := frozen_of hblk3 0
        have f1 := frozen_of hblk3 1
        have hfin := fin0 w3 ho hbw3
        have hblk' : Hid (w3.heap[w.heap.size]? = _) := hblk3
        clear fin0 fin1 hblk3 kl hB3 hv3 hN hm hone hN0 hR3
        go_wp2
        (try simp only [Exit.inBlock, Exit.then])
        refine bodyPost_ret (results_rec rfl _ _ w.heap.size _ _ rfl (rec_set hblk'.out _ _)) rfl ?_
        exact hfin.out
      · have hNi : ((N : Int) == 0) = false := by simp; omega
        have hNj : ¬ (N : Int) = 0 := by omega
        by_cases hbig : 4096 < d.length - m
        · have ho : o = none := by rw [hone, if_pos (.inr hbig)]
          have hbi : (4096 : Int) < ((d.length - m : Nat) : Int) := by omega
          have fin := fun w4 h => fin0 w4 ho h
          clear fin0 fin1 hB3 hv3 hN hm hone hR3
          generalize d.length - m = z at *
          go_wp2_with fail
          refine kl.mono ?_
          rintro e' w4 ⟨rfl, hb4⟩
          have hblk4 := (hb4.block w.heap.size (by have := (Array.getElem?_eq_some_iff.1 hblk3).1; omega)).trans hblk3
          have c0 : w4.cell? ⟨w.heap.size, 0, none⟩ = some (.int .u64 0) := by rw [cells_of_block hblk4]; rfl
          have c1 : w4.cell? ⟨w.heap.size, 1, none⟩ = some (.slice none 0 0) := by rw [cells_of_block hblk4]; rfl
          have f0 := frozen_of hblk4 0
          have f1 := frozen_of hblk4 1
          have hfin := fin w4 (hbw3.trans (hb4.mono hbw3.size))
          have hblk' : Hid (w4.heap[w.heap.size]? = _) := hblk4
          clear fin hblk3 hblk4 kl
          go_wp2
          (try simp only [Exit.inBlock, Exit.then])
          refine bodyPost_ret (results_rec rfl _ _ w.heap.size _ _ rfl (rec_set hblk'.out _ _)) rfl ?_
          exact hfin.out
        · have ho : o = some (⟨N, d.drop m⟩, n) := by rw [hone, if_neg (by omega)]
          have hne : d ≠ [] := by
            rintro rfl
            apply hN0
            rw [hN]
            rfl
          obtain ⟨b, off, cp, rfl⟩ := hB3.some hne
          have hcp : d.length ≤ cp ∧ cp ≤ maxLen := by obtain ⟨_, _, h1, h2, h3, _⟩ := id hB3; cases h1; exact ⟨h2, h3⟩
          have hdr := hB3.drop m hmd
          obtain ⟨a, ha⟩ : ∃ a, (if cp = m then some (⟨b, off, none⟩ : Addr) else some ⟨b, off + m, none⟩) = some a := by split <;> exact ⟨_, rfl⟩
          have hab : a.block = b := by
            split at ha <;> (cases ha; rfl)
          rw [ha] at hdr
          have hbi : ¬ (4096 : Int) < ((d.length - m : Nat) : Int) := by omega
          have q1 : IntKind.i64.wrap ((d.length : Int) - ((d.length - m : Nat) : Int)) = (m : Int) := by
            rw [show (d.length : Int) - ((d.length - m : Nat) : Int) = (m : Int) by omega]
            exact IntWalk.i64_in _ (by omega)
          have hm1 : (m : Int) ≤ (d.length : Int) := by omega
          have hm2 : ¬ (m : Int) < 0 := by omega
          have hm3 : (d.length : Int) ≤ (cp : Int) := by omega
          have hm4 : (cp : Int) ≤ 9223372036854775807 := by unfold maxLen at hcp; omega
          have hm5 : d.length ≤ cp := hcp.1
          have hfr : ∀ j, (some b : Option Nat) = some j → w.heap.size + 1 ≤ j ∧ j < w3.heap.size := fun j hj => hv3 j hj
          have fin := fun w4 v h1 h2 h3 => fin1 w4 ⟨N, d.drop m⟩ n v ho h1 h2 h3
          have hlt3 := (Array.getElem?_eq_some_iff.1 hblk3).1
          have kl2 : ∀ w4, Below w3.heap.size w3 w4 → Calls Tryz.prog 103 #[.pointer (some ⟨q, 0, none⟩)] w4 fun e w' => e = .returned (.int .i64 ((d.length - m : Nat) : Int)) ∧ Below w4.heap.size w4 w' := fun w4 hb4 => left_of q d m _ w4 (hR3.below hb4)
          clear fin0 fin1 hN hm hone hB3 hv3 hR3
          go_wp2_with fail
          refine kl.mono ?_
          rintro e' w4 ⟨rfl, hb4⟩
          have kl3 := kl2 w4 hb4
          clear kl kl2
          go_wp2_with fail
          refine kl3.mono ?_
          rintro e' w5 ⟨rfl, hb5⟩
          have hb35 := hb4.trans (hb5.mono hb4.size)
          have hblk5 := (hb35.block w.heap.size hlt3).trans hblk3
          have c0 : w5.cell? ⟨w.heap.size, 0, none⟩ = some (.int .u64 0) := by rw [cells_of_block hblk5]; rfl
          have c1 : w5.cell? ⟨w.heap.size, 1, none⟩ = some (.slice none 0 0) := by rw [cells_of_block hblk5]; rfl
          have f0 := frozen_of hblk5 0
          have f1 := frozen_of hblk5 1
          have hfin := fin w5 (.slice (some a) (d.length - m) (cp - m)) (hbw3.trans (hb35.mono hbw3.size)) ((hdr.below hb35).mono hb35.size) (fun j hj => by
            have := hfr j (by rw [← hab]; exact hj)
            have := hb35.size
            omega)
          have hblk' : Hid (w5.heap[w.heap.size]? = _) := hblk5
          clear kl3 fin hblk3 hblk5 hdr
          go_wp2
          (try simp only [Exit.inBlock, Exit.then])
          refine bodyPost_ret (results_rec rfl _ _ w.heap.size _ _ rfl (rec_set hblk'.out _ _)) rfl ?_
          exact hfin.out
    · have ho : o = none := by rw [HO.out]; unfold one; rw [hx]; simp [hk]
      have hki : ¬ (k : Int) = 1 := by omega
      have hkj : ((k : Int) != 1) = true := by simp; omega
      clear HO hB hT
      go_enter Tryz.func80, Tryz.ntmps80
      go_wp2_with fail
      refine kn.mono ?_
      rintro e' w1 ⟨v', rfl, hB', hv', hb1⟩
      have hblk := (hb1.block w.heap.size (by rw [hsz0]; omega)).trans hbk0
      have c0 : w1.cell? ⟨w.heap.size, 0, none⟩ = some (.int .u64 0) := by rw [cells_of_block hblk]; rfl
      have c1 : w1.cell? ⟨w.heap.size, 1, none⟩ = some (.slice none 0 0) := by rw [cells_of_block hblk]; rfl
      have f0 := frozen_of hblk 0
      have f1 := frozen_of hblk 1
      have hfin := fin0 w1 ho (hb0.trans (hb1.mono hb0.size))
      have hblk' : Hid (w1.heap[w.heap.size]? = _) := hblk
      clear kn hB' hv' fin0 fin1 hblk
      simp only [nxV]
      go_wp2
      (try simp only [Exit.inBlock, Exit.then])
      refine bodyPost_ret (results_rec rfl _ _ w.heap.size _ _ rfl (rec_set hblk'.out _ _)) rfl ?_
      exact hfin.out
end Go.Proofs.YtgfoogeiancecaaGreatDoor.Fr

