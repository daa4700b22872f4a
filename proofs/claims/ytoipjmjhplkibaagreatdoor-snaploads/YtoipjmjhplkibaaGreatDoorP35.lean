import Derived.Test.YtoipjmjhplkibaaGreatDoorP30
import Derived.Test.YtoipjmjhplkibaaGreatDoorP28
/- The contract of the document's own number: the number at the beginning of bytes. -/
namespace Go.Proofs.YtoipjmjhplkibaaGreatDoor.Fr
open Go.RowKit WireMath CrcMath FrameMath
set_option maxRecDepth 100000
set_option linter.unusedSimpArgs false
set_option linter.unusedVariables false

set_option maxHeartbeats 4000000 in
theorem number_of (n₀ : Nat) (l : List Nat) (v : Value) (w : World) (hB : Bs n₀ w v l) (hl : ∀ c ∈ l, c < 256) (hn₀ : n₀ ≤ w.heap.size) :
    Calls Tryz.prog 110 #[v] w fun e w' => e = .returned (.tuple #[.int .u64 (((rd 10 0 0 l).getD (0, 0)).1 : Int), .int .i64 (((rd 10 0 0 l).getD (0, 0)).2 : Int)]) ∧ Below w.heap.size w w' := by
  obtain ⟨ao, cap, rfl, h2, h3, h4, h5⟩ := id hB
  have hm : l.length ≤ 9223372036854775807 := by unfold maxLen at h3; omega
  have hcap : (cap : Int) ≤ 9223372036854775807 := by unfold maxLen at h3; omega
  obtain ⟨X, HX⟩ : ∃ X, Hid (X = (rd 10 0 0 l).getD (0, 0)) := ⟨_, rfl⟩
  rw [← HX.out]
  go_enter Tryz.func110, Tryz.ntmps110
  go_wp2
  go_loopg [4] 10 (fun g s5 wr => ∃ n : Nat, n + g = 11 ∧ 0 < n ∧ s5 = .int .i64 (n : Int) ∧ Hid (∀ j N, j < n → rd 10 0 0 l ≠ some (N, j)) ∧ Below w.heap.size w wr)
  case atStart => exact ⟨1, by omega, by omega, rfl, fun j N hj h => by have := (rd_parts hl h).2.1; omega, Below.refl _ _⟩
  case round =>
    obtain ⟨n, hn, hn0, rfl, H, hbw⟩ := hrel
    have hBr := hB.below (hbw.mono hn₀)
    have hsz := hbw.size
    by_cases hgo : n ≤ l.length ∧ n ≤ 10
    · have hgo1 : (n : Int) ≤ (l.length : Int) := by omega
      have hgo2 : (n : Int) ≤ 10 := by omega
      have hnc : (n : Int) ≤ (cap : Int) := by omega
      have hnc2 : n ≤ cap := by omega
      have hBt := Bs.took hBr hgo.1
      have hlt : ∀ c ∈ l.take n, c < 256 := fun c hc => hl c (List.mem_of_mem_take hc)
      have hbx := (Below.refl wr.heap.size wr).alloc (Nat.le_refl _) (.cells #[.slice ao n cap, .int .i64 0, .int .i64 0] 181)
      have hR : Rr n₀ (wr.alloc (.cells #[.slice ao n cap, .int .i64 0, .int .i64 0] 181)) wr.heap.size (l.take n) 0 0 := ⟨_, heap_alloc_new wr _, hBt.below (hbx.mono (by omega)), Nat.zero_le _, by omega⟩
      have hu := ruv_of n₀ wr.heap.size (l.take n) 0 0 _ hR hlt
      have hN : uvN (l.take n) 0 0 = ((rd 10 0 0 (l.take n)).getD (0, 0)).1 := rfl
      have hNlt := uvN_lt (a := 0) (b := 0) hlt
      have hiff := value_iff hl hgo.1
      have hback : ∀ N, rd 10 0 0 l = some (N, n) → uv ((rd 10 0 0 (l.take n)).getD (0, 0)).1 = l.take n := fun N h => by
        obtain ⟨g1, g2⟩ := value_back hl hgo.1 h
        rw [g1]
        exact g2
      rw [hN] at hu hNlt
      generalize ((rd 10 0 0 (l.take n)).getD (0, 0)).1 = N at *
      have hub : ∀ c ∈ uv N, c < 256 := uv_bytes N
      clear hR hN hbx
      go_wp2_with fail
      refine hu.mono ?_
      rintro e w2 ⟨rfl, -, hk2⟩
      have hbx := (Below.refl wr.heap.size wr).alloc (Nat.le_refl _) (.cells #[.slice ao n cap, .int .i64 0, .int .i64 0] 181)
      have hbr2 : Below wr.heap.size wr w2 := hbx.trans (hk2.below (Nat.le_refl _) hbx.size)
      have hbel2 : Below w.heap.size w w2 := hbw.trans (hbr2.mono hsz)
      have hB2 := hBt.below (hbr2.mono (by omega))
      have hs2 := hbel2.size
      clear hu hk2 hbx hBt
      have hd2 : Below w2.heap.size w2 w2.drew := (Below.refl _ _).drew
      have ku := refUvarint_of N w2.drew hNlt
      have hS : ∀ w', Below w2.heap.size w2 w' → (convert 32 9 (.slice ao n cap)).run Tryz.prog w' = .ok (.string (str (l.take n))) w' := fun w' hb => str_of (hB2.below (hb.mono (by omega))) hlt
      by_cases he : uv N = l.take n
      · obtain ⟨N', hr, hNN⟩ := hiff.1 he
        subst hNN
        have E1 : Hid (X.1 = N') := by show _ = _; rw [HX.out, hr]; rfl
        have E2 : Hid (X.2 = n) := by show _ = _; rw [HX.out, hr]; rfl
        rw [he] at ku hub
        clear he HX hiff hback hr H
        generalize l.take n = L at *
        go_wp2
        go_region_held (fun w' => (convert 32 9 (.slice ao n cap)).run Tryz.prog w' = .ok (.string (str L)) w')
          (first | go_keep | exact x4 | exact hS _ hd2)
          (first | (go_at_call 63; refine ku.mono ?_; rintro e w4 ⟨v4, rfl, hO4, hb4⟩; have hbel4 := hd2.trans hb4; have x4 := hS _ hbel4; have c4 := str_of hO4.bs hlt))
        go_wp2
        go_ret2
        exact ⟨by rw [E1.out, E2.out]; rfl, hbel2.trans (hbel4.mono hbel2.size)⟩
      · have hst := str_ne hub hlt he
        have hst2 : ¬ (str (uv N)).toList = (str (l.take n)).toList := fun h => by rw [h] at hst; simp at hst
        have H' : Hid (∀ j N, j < n + 1 → rd 10 0 0 l ≠ some (N, j)) := fun j M hj h => by
          by_cases hjn : j = n
          · subst hjn
            exact he (hback M h)
          · exact H.out j M (by omega) h
        clear H hiff hback he
        generalize l.take n = L at *
        generalize uv N = U at *
        go_wp2
        go_region_held (fun w' => (convert 32 9 (.slice ao n cap)).run Tryz.prog w' = .ok (.string (str L)) w')
          (first | go_keep | exact x4 | exact hS _ hd2)
          (first | (go_at_call 63; refine ku.mono ?_; rintro e w4 ⟨v4, rfl, hO4, hb4⟩; have hbel4 := hd2.trans hb4; have x4 := hS _ hbel4; have c4 := str_of hO4.bs hub))
        go_wp2
        go_roundg (gk - 1)
        case measure => omega
        case rel => exact ⟨n + 1, by omega, by omega, by go_num, H', hbel2.trans (hbel4.mono hbel2.size)⟩
    · have hr : rd 10 0 0 l = none := rd_last hl hgo H.out
      have E1 : Hid (X.1 = 0) := by show _ = _; rw [HX.out, hr]; rfl
      have E2 : Hid (X.2 = 0) := by show _ = _; rw [HX.out, hr]; rfl
      have hend : (¬ (n : Int) ≤ (l.length : Int)) ∨ ((n : Int) ≤ (l.length : Int) ∧ ¬ (n : Int) ≤ 10) := by
        by_cases h : (n : Int) ≤ (l.length : Int)
        · exact .inr ⟨h, fun h' => hgo ⟨by omega, by omega⟩⟩
        · exact .inl h
      clear H HX hr hgo
      rcases hend with h | ⟨h, h'⟩ <;>
      (go_wp2
       go_ret2
       exact ⟨by rw [E1.out, E2.out]; rfl, hbw⟩)
end Go.Proofs.YtoipjmjhplkibaaGreatDoor.Fr

/- The contract of the document's own Decode: the snapshot of bytes. -/
namespace Go.Proofs.YtoipjmjhplkibaaGreatDoor.Fr
open Go.RowKit WireMath CrcMath FrameMath
set_option maxRecDepth 100000
set_option linter.unusedSimpArgs false
set_option linter.unusedVariables false

theorem results_sn {fn : Func} {p u : Tmp} (h : fn.results = #[.cell p 57, .tmp u]) (tmps : Array Value) (w : World) (g : Nat) (a b c : Value)
    (hp : tmps.getD p undef = .pointer (some ⟨g, 0, none⟩)) (hg : w.heap[g]? = some (.cells #[a, b, c] 57 (0, 0))) :
    (results fn tmps).run Tryz.prog w = .ok (.tuple #[.agg #[a, b, c], tmps.getD u undef]) w := by
  have hp' : tmps[p]?.getD undef = .pointer (some ⟨g, 0, none⟩) := by simpa using hp
  simp [results, h, hp', asAddr, run_loadVar_row w g 57 57 #[a, b, c] (0, 0) _ hg Tryz.underlying57 rfl (by kernel_rfl)]
theorem sn_set {w : World} {g : Nat} {a b c : Value} {t : TypeId} (h : w.heap[g]? = some (.cells #[a, b, c] t (0, 0))) (x y z : Value) : (((w.setCell ⟨g, 0, none⟩ x).setCell ⟨g, 1, none⟩ y).setCell ⟨g, 2, none⟩ z).heap[g]? = some (.cells #[x, y, z] t (0, 0)) := by
  simp [World.setCell, Array.getElem?_modify, h]
theorem sn_below {n : Nat} {w w1 : World} (hb : Below n w w1) (x y z : Value) : Below n w (((w1.setCell ⟨n, 0, none⟩ x).setCell ⟨n, 1, none⟩ y).setCell ⟨n, 2, none⟩ z) :=
  ((hb.setCell (p := ⟨n, 0, none⟩) (Nat.le_refl _) _).setCell (p := ⟨n, 1, none⟩) (Nat.le_refl _) _).setCell (p := ⟨n, 2, none⟩) (Nat.le_refl _) _

/-- What the document's own Decode tells: Index, Term, bytes, whether there is one. -/
def snOf (l : List Nat) : Nat × Nat × List Nat × Bool := match snDec l with | none => (0, 0, [], false) | some (i, t, b) => (i, t, b, true)
def DecsT (w : World) (T : Nat × Nat × List Nat × Bool) (e : Ending) (w' : World) : Prop :=
  ∃ a n c, e = .returned (.tuple #[.agg #[.int .u64 (T.1 : Int), .int .u64 (T.2.1 : Int), .slice a n c], .bool T.2.2.2]) ∧ Bs w'.heap.size w' (.slice a n c) T.2.2.1 ∧ Below w.heap.size w w'

/-- Bytes that lie below a box are not touched by stores into it. -/
theorem box3_bs {n₀ g : Nat} {w : World} {v : Value} {l : List Nat} (h : Bs n₀ w v l) (hg : ∀ j, v.ownBlock = some j → j ≠ g) (x y z : Value) : Bs n₀ (((w.setCell ⟨g, 0, none⟩ x).setCell ⟨g, 1, none⟩ y).setCell ⟨g, 2, none⟩ z) v l := by
  refine Bs.grown (row := some g) h ⟨rfl, rfl, rfl, by simp [World.setCell], fun k hk hne => ?_⟩ (fun k hk e => hg k hk (Option.some.inj e).symm)
  have hkg : k ≠ g := fun e => hne (by rw [e])
  rw [Below.heap_setCell _ _ _ _ hkg, Below.heap_setCell _ _ _ _ hkg, Below.heap_setCell _ _ _ _ hkg]

set_option maxHeartbeats 8000000 in
theorem refDecode_of (n₀ : Nat) (l : List Nat) (v : Value) (w : World) (hB : Bs n₀ w v l) (hl : ∀ c ∈ l, c < 256) (hn₀ : n₀ ≤ w.heap.size) (hlen : l.length ≤ 1000000) :
    Calls Tryz.prog 83 #[v] w (DecsT w (snOf l)) := by
  obtain ⟨ao, cap, rfl, h2, h3, h4, h5⟩ := id hB
  have hb0 := (Below.refl w.heap.size w).alloc (Nat.le_refl _) (.cells #[.int .u64 0, .int .u64 0, .slice none 0 0] 57)
  have hbk0 := heap_alloc_new w (.cells #[.int .u64 0, .int .u64 0, .slice none 0 0] 57)
  have hsz0 : (w.alloc (.cells #[.int .u64 0, .int .u64 0, .slice none 0 0] 57)).heap.size = w.heap.size + 1 := by simp
  have kn := refNext_of n₀ l _ (w.alloc (.cells #[.int .u64 0, .int .u64 0, .slice none 0 0] 57)) (hB.below (hb0.mono hn₀)) hl (Nat.le_trans hn₀ hb0.size)
  rw [hsz0] at kn
  have fin : ∀ W (T : Nat × Nat × List Nat × Bool) a n c, snOf l = T → Bs W.heap.size W (.slice a n c) T.2.2.1 → (∀ j, (Value.slice a n c).ownBlock = some j → j ≠ w.heap.size) → Below w.heap.size w W → ∀ x y z, Hid (DecsT w (snOf l) (.returned (.tuple #[.agg #[.int .u64 (T.1 : Int), .int .u64 (T.2.1 : Int), .slice a n c], .bool T.2.2.2])) (((W.setCell ⟨w.heap.size, 0, none⟩ x).setCell ⟨w.heap.size, 1, none⟩ y).setCell ⟨w.heap.size, 2, none⟩ z)) := fun W T a n c h1 h2 h3 h4 x y z => by
    rw [h1]
    refine ⟨a, n, c, rfl, ?_, sn_below h4 _ _ _⟩
    have := box3_bs (g := w.heap.size) h2 h3 x y z
    have e : (((W.setCell ⟨w.heap.size, 0, none⟩ x).setCell ⟨w.heap.size, 1, none⟩ y).setCell ⟨w.heap.size, 2, none⟩ z).heap.size = W.heap.size := by simp [World.setCell]
    rw [e]
    exact this
  have bad : ∀ W, snOf l = (0, 0, [], false) → Below w.heap.size w W → ∀ x y z, Hid (DecsT w (snOf l) (.returned (.tuple #[.agg #[.int .u64 0, .int .u64 0, .slice none 0 0], .bool false])) (((W.setCell ⟨w.heap.size, 0, none⟩ x).setCell ⟨w.heap.size, 1, none⟩ y).setCell ⟨w.heap.size, 2, none⟩ z)) := fun W h1 h2 => fin W (0, 0, [], false) none 0 0 h1 (Bs.nil _ _) (fun j hj => by cases hj) h2
  have hcs : ∀ W, Below (w.heap.size + 1) (w.alloc (.cells #[.int .u64 0, .int .u64 0, .slice none 0 0] 57)) W → W.cell? ⟨w.heap.size, 0, none⟩ = some (.int .u64 0) ∧ W.cell? ⟨w.heap.size, 1, none⟩ = some (.int .u64 0) ∧ W.cell? ⟨w.heap.size, 2, none⟩ = some (.slice none 0 0) ∧ W.frozen? ⟨w.heap.size, 0, none⟩ = false ∧ W.frozen? ⟨w.heap.size, 1, none⟩ = false ∧ W.frozen? ⟨w.heap.size, 2, none⟩ = false ∧ Hid (W.heap[w.heap.size]? = some (.cells #[.int .u64 0, .int .u64 0, .slice none 0 0] 57 (0, 0))) := fun W hb => by
    have h := (hb.block w.heap.size (by omega)).trans hbk0
    exact ⟨by rw [cells_of_block h]; rfl, by rw [cells_of_block h]; rfl, by rw [cells_of_block h]; rfl, frozen_of h 0, frozen_of h 1, frozen_of h 2, h⟩
  clear hB
  cases hx : next l with
  | error e =>
    have hV : snOf l = (0, 0, [], false) := by unfold snOf snDec; rw [hx]
    have bd := fun W => bad W hV
    have he : e ≠ 0 := nx_err_ne hx
    rw [hx] at kn
    have hei : ¬ (e : Int) = 0 := by omega
    have hej : ((e : Int) != 0) = true := by simp; omega
    clear fin bad hV
    generalize DecsT w (snOf l) = T at *
    go_enter Tryz.func83, Tryz.ntmps83
    go_wp2_with fail
    refine kn.mono ?_
    rintro e' w1 ⟨v', rfl, hB', hv', hb1⟩
    have hsh : ∃ a n c, v' = .slice a n c := by
      obtain ⟨a, c, e, -⟩ := id hB'
      exact ⟨a, _, c, e⟩
    obtain ⟨va, vn, vc, rfl⟩ := hsh
    have hbx := hb1.alloc (by have := hb1.size; omega) (.cells #[.int .u8 0, .slice va vn vc] 165)
    obtain ⟨c0, c1, c2, f0, f1, f2, hbk⟩ := hcs _ hbx
    have E := bd _ (hb0.trans (hbx.mono (by omega)))
    clear kn hB' hv' hcs bd
    simp only [nrV]
    go_wp2
    (try simp only [Exit.inBlock, Exit.then])
    refine bodyPost_ret (results_sn rfl _ _ w.heap.size _ _ _ rfl (sn_set hbk.out _ _ _)) rfl ?_
    exact (E _ _ _).out
  | ok x =>
    obtain ⟨k, d, n⟩ := x
    have hf := next_ok_facts hx
    have hd : ∀ c ∈ d, c < 256 := fun c hc => hl c (hf.2.2.2 c hc)
    rw [hx] at kn
    have hdl : d.length ≤ 1000000 := by omega
    by_cases hk : k = 3 ∧ n = l.length
    · obtain ⟨hk2, hnl⟩ := hk
      subst hk2
      have hni : ((n : Int) != (l.length : Int)) = false := by simp; omega
      have hnj : (n : Int) = (l.length : Int) := by omega
      have hto : Hid (snOf l = match snRd d with | none => (0, 0, [], false) | some (i, t, b) => (i, t, b, true)) := by
        show _ = _
        unfold snOf snDec
        rw [hx]
        dsimp only
        rw [if_pos ⟨rfl, hnl⟩]
      have kn1 : ∀ n₁ W v, Bs n₁ W v d → n₁ ≤ W.heap.size → Calls Tryz.prog 110 #[v] W fun e w' => e = .returned (.tuple #[.int .u64 (((rd 10 0 0 d).getD (0, 0)).1 : Int), .int .i64 (((rd 10 0 0 d).getD (0, 0)).2 : Int)]) ∧ Below W.heap.size W w' := fun n₁ W v hB h => number_of n₁ d v W hB hd h
      have kn2 : ∀ k n₁ W v, Bs n₁ W v (d.drop k) → n₁ ≤ W.heap.size → Calls Tryz.prog 110 #[v] W fun e w' => e = .returned (.tuple #[.int .u64 (((rd 10 0 0 (d.drop k)).getD (0, 0)).1 : Int), .int .i64 (((rd 10 0 0 (d.drop k)).getD (0, 0)).2 : Int)]) ∧ Below W.heap.size W w' := fun k n₁ W v hB h => number_of n₁ (d.drop k) v W hB (fun c hc => hd c (List.mem_of_mem_drop hc)) h
      have hp1 : ∀ i k, rd 10 0 0 d = some (i, k) → 0 < k ∧ k ≤ d.length := fun i k h => by have := rd_parts hd h; omega
      have hp2 : ∀ k t m, rd 10 0 0 (d.drop k) = some (t, m) → 0 < m ∧ m ≤ d.length - k := fun k t m h => by
        have := rd_parts (fun c hc => hd c (List.mem_of_mem_drop hc)) h
        rw [List.length_drop] at this
        omega
      generalize hTd : DecsT w (snOf l) = T at *
      go_enter Tryz.func83, Tryz.ntmps83
      go_wp2_with fail
      refine kn.mono ?_
      rintro e' w1 ⟨v', rfl, hB', hv', hb1⟩
      have hsh : ∃ a c, v' = .slice a d.length c := by
        obtain ⟨a, c, e, -⟩ := id hB'
        exact ⟨a, c, e⟩
      obtain ⟨va, vc, rfl⟩ := hsh
      have hB1 : Bs w1.heap.size w1 (.slice va d.length vc) d := hB'
      have hvn : ∀ j, (Value.slice va d.length vc).ownBlock = some j → j ≠ w.heap.size := fun j hj => by have := (hv' j hj).1; omega
      have hs1 : w.heap.size + 1 ≤ w1.heap.size := by have := hb1.size; omega
      -- the boxes of x and s
      have hbx := (Below.refl w1.heap.size w1).alloc (Nat.le_refl _) (.cells #[.int .u8 3, .slice va d.length vc] 165)
      have hnx := heap_alloc_new w1 (.cells #[.int .u8 3, .slice va d.length vc] 165)
      have hszx : (w1.alloc (.cells #[.int .u8 3, .slice va d.length vc] 165)).heap.size = w1.heap.size + 1 := by simp
      have hbs := (Below.refl (w1.heap.size + 1) (w1.alloc (.cells #[.int .u8 3, .slice va d.length vc] 165))).alloc (by omega) (.cells #[.int .u64 0, .int .u64 0, .slice none 0 0] 57)
      have hns := heap_alloc_new (w1.alloc (.cells #[.int .u8 3, .slice va d.length vc] 165)) (.cells #[.int .u64 0, .int .u64 0, .slice none 0 0] 57)
      rw [hszx] at hns
      have hbxs := hbx.trans (hbs.mono (by omega))
      have hszs : ((w1.alloc (.cells #[.int .u8 3, .slice va d.length vc] 165)).alloc (.cells #[.int .u64 0, .int .u64 0, .slice none 0 0] 57)).heap.size = w1.heap.size + 2 := by simp
      have hx2 := (hbs.block w1.heap.size (by omega)).trans hnx
      have k1 := kn1 _ _ _ (hB1.below hbxs) (by rw [hszs]; omega)
      rw [hszs] at k1
      clear kn kn1 hB' hv'
      simp only [nrV]
      go_wp2_with fail
      refine k1.mono ?_
      rintro e' w2 ⟨rfl, hb2⟩
      generalize hWs : (w1.alloc (.cells #[.int .u8 3, .slice va d.length vc] 165)).alloc (.cells #[.int .u64 0, .int .u64 0, .slice none 0 0] 57) = Ws at *
      have hb12 : Below w1.heap.size w1 w2 := hbxs.trans (hb2.mono (by omega))
      have hx3 := (hb2.block w1.heap.size (by omega)).trans hx2
      have hs3 := (hb2.block (w1.heap.size + 1) (by omega)).trans hns
      have hs2 : w1.heap.size + 2 ≤ w2.heap.size := by have := hb2.size; omega
      clear k1 hWs hbs hns hnx hbx hx2 hbxs
      cases hr1 : rd 10 0 0 d with
      | none =>
        have hV : snOf l = (0, 0, [], false) := by rw [hto.out]; unfold snRd; rw [hr1]
        have x1 : w2.cell? ⟨w1.heap.size, 1, none⟩ = some (.slice va d.length vc) := by rw [cells_of_block hx3]; rfl
        have s0 : w2.cell? ⟨w1.heap.size + 1, 0, none⟩ = some (.int .u64 0) := by rw [cells_of_block hs3]; rfl
        have p0 := frozen_of hs3 0
        have hb3 : Below w1.heap.size w1 (w2.setCell ⟨w1.heap.size + 1, 0, none⟩ (.int .u64 0)) := hb12.setCell (p := ⟨w1.heap.size + 1, 0, none⟩) (by show w1.heap.size ≤ w1.heap.size + 1; omega) _
        have hbb := hb1.trans (hb3.mono hs1)
        obtain ⟨c0, c1, c2, f0, f1, f2, hbk⟩ := hcs _ hbb
        have E := bad _ hV (hb0.trans (hbb.mono (by omega)))
        simp only [Option.getD_none]
        clear hcs bad fin hto kn2 hp1 hp2 hV hB1 hb3
        go_wp2
        (try simp only [Exit.inBlock, Exit.then])
        refine bodyPost_ret (results_sn rfl _ _ w.heap.size _ _ _ rfl (sn_set hbk.out _ _ _)) rfl ?_
        exact (E _ _ _).out
      | some y =>
        obtain ⟨i, kk⟩ := y
        simp only [Option.getD_some]
        obtain ⟨hkk0, hkkl⟩ := hp1 i kk hr1
        have x1 : w2.cell? ⟨w1.heap.size, 1, none⟩ = some (.slice va d.length vc) := by rw [cells_of_block hx3]; rfl
        have s0 : w2.cell? ⟨w1.heap.size + 1, 0, none⟩ = some (.int .u64 0) := by rw [cells_of_block hs3]; rfl
        have p0 := frozen_of hs3 0
        have hs4 : (w2.setCell ⟨w1.heap.size + 1, 0, none⟩ (.int .u64 (i : Int))).heap[w1.heap.size + 1]? = some (.cells #[.int .u64 (i : Int), .int .u64 0, .slice none 0 0] 57 (0, 0)) := by
          simp [World.setCell, Array.getElem?_modify, hs3]
        have hx4 : (w2.setCell ⟨w1.heap.size + 1, 0, none⟩ (.int .u64 (i : Int))).heap[w1.heap.size]? = some (.cells #[.int .u8 3, .slice va d.length vc] 165 (0, 0)) := by
          rw [Below.heap_setCell _ _ _ _ (by show w1.heap.size ≠ w1.heap.size + 1; omega)]
          exact hx3
        have hb3 : Below w1.heap.size w1 (w2.setCell ⟨w1.heap.size + 1, 0, none⟩ (.int .u64 (i : Int))) := hb12.setCell (p := ⟨w1.heap.size + 1, 0, none⟩) (by show w1.heap.size ≤ w1.heap.size + 1; omega) _
        have hsz3 : (w2.setCell ⟨w1.heap.size + 1, 0, none⟩ (.int .u64 (i : Int))).heap.size = w2.heap.size := by simp [World.setCell]
        have hkki : ¬ (kk : Int) = 0 := by omega
        have hkkj : ((kk : Int) == 0) = false := by simp; omega
        by_cases hi0 : i = 0
        · have hV : snOf l = (0, 0, [], false) := by
            rw [hto.out]; unfold snRd; rw [hr1]; dsimp only
            cases rd 10 0 0 (d.drop kk) with
            | none => rfl
            | some z => dsimp only; rw [if_pos (.inl hi0)]
          subst hi0
          have hbz : Below w1.heap.size w1 (w2.setCell ⟨w1.heap.size + 1, 0, none⟩ (.int .u64 0)) := hb3
          have hbb := hb1.trans (hbz.mono hs1)
          obtain ⟨c0, c1, c2, f0, f1, f2, hbk⟩ := hcs _ hbb
          have E := bad _ hV (hb0.trans (hbb.mono (by omega)))
          have s4 : (w2.setCell ⟨w1.heap.size + 1, 0, none⟩ (.int .u64 0)).cell? ⟨w1.heap.size + 1, 0, none⟩ = some (.int .u64 0) := by
            have h : (w2.setCell ⟨w1.heap.size + 1, 0, none⟩ (.int .u64 0)).heap[w1.heap.size + 1]? = some (.cells #[.int .u64 0, .int .u64 0, .slice none 0 0] 57 (0, 0)) := hs4
            rw [cells_of_block h]; rfl
          clear hbz
          clear hcs bad fin hto kn2 hp1 hp2 hV hB1 hb3
          go_wp2
          (try simp only [Exit.inBlock, Exit.then])
          refine bodyPost_ret (results_sn rfl _ _ w.heap.size _ _ _ rfl (sn_set hbk.out _ _ _)) rfl ?_
          exact (E _ _ _).out
        · have hii : ¬ (i : Int) = 0 := by omega
          have hij : ((i : Int) == 0) = false := by simp; omega
          have s4 : (w2.setCell ⟨w1.heap.size + 1, 0, none⟩ (.int .u64 (i : Int))).cell? ⟨w1.heap.size + 1, 0, none⟩ = some (.int .u64 (i : Int)) := by rw [cells_of_block hs4]; rfl
          have x4 : (w2.setCell ⟨w1.heap.size + 1, 0, none⟩ (.int .u64 (i : Int))).cell? ⟨w1.heap.size, 1, none⟩ = some (.slice va d.length vc) := by rw [cells_of_block hx4]; rfl
          have hB3 := hB1.below hb3
          have hvc : d.length ≤ vc ∧ vc ≤ maxLen := by
            obtain ⟨a, c, e, g1, g2, -⟩ := id hB3
            cases e
            exact ⟨g1, g2⟩
          have hne : d ≠ [] := fun h => by rw [h] at hkkl; simp at hkkl; omega
          obtain ⟨bb, off, vc', hsh⟩ := Bs.some hB3 hne
          simp only [Value.slice.injEq, true_and] at hsh
          obtain ⟨rfl, rfl⟩ := hsh
          have hvc1 : (vc : Int) ≤ 9223372036854775807 := by have := hvc.2; unfold maxLen at this; omega
          have hvc2 : (kk : Int) ≤ (vc : Int) := by omega
          have hvc3 : (kk : Int) ≤ (d.length : Int) := by omega
          have hvc4 : (d.length : Int) ≤ (vc : Int) := by omega
          have hBd := Bs.drop hB3 kk hkkl
          have hcl : ∃ A, (if vc = kk then some (⟨bb, off, none⟩ : Addr) else some ⟨bb, off + kk, none⟩) = some A := by split <;> exact ⟨_, rfl⟩
          obtain ⟨A, hcl⟩ := hcl
          rw [hcl] at hBd
          have k2 := kn2 kk w1.heap.size (w2.setCell ⟨w1.heap.size + 1, 0, none⟩ (.int .u64 (i : Int))) _ hBd (by rw [hsz3]; omega)
          rw [hsz3] at k2
          clear kn2 hBd
          go_wp2_with fail
          refine k2.mono ?_
          rintro e' w5 ⟨rfl, hb5⟩
          have hs5 := (hb5.block (w1.heap.size + 1) (by omega)).trans hs4
          have hx5 := (hb5.block w1.heap.size (by omega)).trans hx4
          have hb15 : Below w1.heap.size w1 w5 := hb3.trans (hb5.mono (by omega))
          have hz5 : w2.heap.size ≤ w5.heap.size := by have := hb5.size; rw [hsz3] at this; exact this
          clear k2 hs4 hx4 s4 x4 hb3 hB3 hs3 hx3 x1 s0 p0 hb12 hb2 hb5
          cases hr2 : rd 10 0 0 (d.drop kk) with
          | none =>
            have hV : snOf l = (0, 0, [], false) := by rw [hto.out]; unfold snRd; rw [hr1]; dsimp only; rw [hr2]
            have s1 : w5.cell? ⟨w1.heap.size + 1, 1, none⟩ = some (.int .u64 0) := by rw [cells_of_block hs5]; rfl
            have p1 := frozen_of hs5 1
            have hb6 : Below w1.heap.size w1 (w5.setCell ⟨w1.heap.size + 1, 1, none⟩ (.int .u64 0)) := hb15.setCell (p := ⟨w1.heap.size + 1, 1, none⟩) (by show w1.heap.size ≤ w1.heap.size + 1; omega) _
            have hbb := hb1.trans (hb6.mono hs1)
            obtain ⟨c0, c1, c2, f0, f1, f2, hbk⟩ := hcs _ hbb
            have E := bad _ hV (hb0.trans (hbb.mono (by omega)))
            simp only [Option.getD_none]
            clear hcs bad fin hto hp1 hp2 hV hB1 hb6
            go_wp2
            (try simp only [Exit.inBlock, Exit.then])
            refine bodyPost_ret (results_sn rfl _ _ w.heap.size _ _ _ rfl (sn_set hbk.out _ _ _)) rfl ?_
            exact (E _ _ _).out
          | some y =>
            obtain ⟨t, m⟩ := y
            simp only [Option.getD_some]
            obtain ⟨hm0, hml⟩ := hp2 kk t m hr2
            have hmi : ¬ (m : Int) = 0 := by omega
            have hmj : ((m : Int) == 0) = false := by simp; omega
            have s1 : w5.cell? ⟨w1.heap.size + 1, 1, none⟩ = some (.int .u64 0) := by rw [cells_of_block hs5]; rfl
            have p1 := frozen_of hs5 1
            have hs6 : (w5.setCell ⟨w1.heap.size + 1, 1, none⟩ (.int .u64 (t : Int))).heap[w1.heap.size + 1]? = some (.cells #[.int .u64 (i : Int), .int .u64 (t : Int), .slice none 0 0] 57 (0, 0)) := by
              simp [World.setCell, Array.getElem?_modify, hs5]
            have hx6 : (w5.setCell ⟨w1.heap.size + 1, 1, none⟩ (.int .u64 (t : Int))).heap[w1.heap.size]? = some (.cells #[.int .u8 3, .slice (some ⟨bb, off, none⟩) d.length vc] 165 (0, 0)) := by
              rw [Below.heap_setCell _ _ _ _ (by show w1.heap.size ≠ w1.heap.size + 1; omega)]
              exact hx5
            have hb6 : Below w1.heap.size w1 (w5.setCell ⟨w1.heap.size + 1, 1, none⟩ (.int .u64 (t : Int))) := hb15.setCell (p := ⟨w1.heap.size + 1, 1, none⟩) (by show w1.heap.size ≤ w1.heap.size + 1; omega) _
            have x6 : (w5.setCell ⟨w1.heap.size + 1, 1, none⟩ (.int .u64 (t : Int))).cell? ⟨w1.heap.size, 1, none⟩ = some (.slice (some ⟨bb, off, none⟩) d.length vc) := by rw [cells_of_block hx6]; rfl
            have y2 : (w5.setCell ⟨w1.heap.size + 1, 1, none⟩ (.int .u64 (t : Int))).cell? ⟨w1.heap.size + 1, 2, none⟩ = some (.slice none 0 0) := by rw [cells_of_block hs6]; rfl
            have r2 := frozen_of hs6 2
            by_cases hlong : 32768 < d.length - (kk + m)
            · have hlg : (32768 : Int) < (d.length : Int) - (kk : Int) - (m : Int) := by omega
              have hV : snOf l = (0, 0, [], false) := by rw [hto.out]; unfold snRd; rw [hr1]; dsimp only; rw [hr2]; dsimp only; rw [if_pos (.inr hlong)]
              have hbb := hb1.trans (hb6.mono hs1)
              obtain ⟨c0, c1, c2, f0, f1, f2, hbk⟩ := hcs _ hbb
              have E := bad _ hV (hb0.trans (hbb.mono (by omega)))
              clear hcs bad fin hto hp1 hp2 hV hB1 hb6
              go_wp2
              (try simp only [Exit.inBlock, Exit.then])
              refine bodyPost_ret (results_sn rfl _ _ w.heap.size _ _ _ rfl (sn_set hbk.out _ _ _)) rfl ?_
              exact (E _ _ _).out
            · have hlg : ¬ (32768 : Int) < (d.length : Int) - (kk : Int) - (m : Int) := by omega
              have hV : snOf l = (i, t, d.drop (kk + m), true) := by
                rw [hto.out]; unfold snRd; rw [hr1]; dsimp only; rw [hr2]; dsimp only
                rw [if_neg (fun h => by rcases h with h | h; exact hi0 h; exact hlong h)]
              obtain ⟨km, hkm⟩ : ∃ km : Nat, km = kk + m := ⟨_, rfl⟩
              have hkm1 : (kk : Int) + (m : Int) ≤ (d.length : Int) := by omega
              have hkm2 : (kk : Int) + (m : Int) ≤ (vc : Int) := by omega
              have hkm3 : km ≤ d.length := by omega
              have hkm4 : ((kk : Int) + (m : Int)).toNat = km := by omega
              have hkm5 : (0 : Int) ≤ (kk : Int) + (m : Int) := by omega
              have hBk := Bs.drop (hB1.below hb6) km hkm3
              have hcl2 : ∃ A, (if vc = km then some (⟨bb, off, none⟩ : Addr) else some ⟨bb, off + km, none⟩) = some A := by split <;> exact ⟨_, rfl⟩
              have hob : ∀ A', (if vc = km then some (⟨bb, off, none⟩ : Addr) else some ⟨bb, off + km, none⟩) = some A' → A'.block = bb := fun A' h => by split at h <;> cases h <;> rfl
              obtain ⟨A2, hcl2⟩ := hcl2
              have hA2 := hob A2 hcl2
              rw [hcl2] at hBk
              have hbn : bb ≠ w.heap.size := hvn bb rfl
              rw [← hkm] at hV
              clear hkm
              have hbl1 : bb < w1.heap.size := by
                obtain ⟨a, c, e, g1, g2, g3, g4⟩ := id hB1
                cases e
                obtain ⟨b', o', e1, e2, e3⟩ := g4 hne
                cases e1
                exact e2
              -- the world behind the last store into s
              have hs7 : ∀ z, ((w5.setCell ⟨w1.heap.size + 1, 1, none⟩ (.int .u64 (t : Int))).setCell ⟨w1.heap.size + 1, 2, none⟩ z).heap[w1.heap.size + 1]? = some (.cells #[.int .u64 (i : Int), .int .u64 (t : Int), z] 57 (0, 0)) := fun z => by
                simp [World.setCell, Array.getElem?_modify, hs5]
              have hb7 : ∀ z, Below w1.heap.size w1 ((w5.setCell ⟨w1.heap.size + 1, 1, none⟩ (.int .u64 (t : Int))).setCell ⟨w1.heap.size + 1, 2, none⟩ z) := fun z => hb6.setCell (p := ⟨w1.heap.size + 1, 2, none⟩) (by show w1.heap.size ≤ w1.heap.size + 1; omega) _
              have hz7 : ∀ z, ((w5.setCell ⟨w1.heap.size + 1, 1, none⟩ (.int .u64 (t : Int))).setCell ⟨w1.heap.size + 1, 2, none⟩ z).heap.size = w5.heap.size := fun z => by simp [World.setCell]
              have q7 := fun z => cells_of_block (hs7 z)
              have z0 : ∀ z, ((w5.setCell ⟨w1.heap.size + 1, 1, none⟩ (.int .u64 (t : Int))).setCell ⟨w1.heap.size + 1, 2, none⟩ z).cell? ⟨w1.heap.size + 1, 0, none⟩ = some (.int .u64 (i : Int)) := fun z => by rw [q7]; rfl
              have z1 : ∀ z, ((w5.setCell ⟨w1.heap.size + 1, 1, none⟩ (.int .u64 (t : Int))).setCell ⟨w1.heap.size + 1, 2, none⟩ z).cell? ⟨w1.heap.size + 1, 1, none⟩ = some (.int .u64 (t : Int)) := fun z => by rw [q7]; rfl
              have z2 : ∀ z, ((w5.setCell ⟨w1.heap.size + 1, 1, none⟩ (.int .u64 (t : Int))).setCell ⟨w1.heap.size + 1, 2, none⟩ z).cell? ⟨w1.heap.size + 1, 2, none⟩ = some z := fun z => by rw [q7]; rfl
              have hbb := hb1.trans ((hb7 (.slice (some A2) (d.length - km) (vc - km))).mono hs1)
              obtain ⟨c0, c1, c2, f0, f1, f2, hbk⟩ := hcs _ hbb
              have hBf : Bs ((w5.setCell ⟨w1.heap.size + 1, 1, none⟩ (.int .u64 (t : Int))).setCell ⟨w1.heap.size + 1, 2, none⟩ (.slice (some A2) (d.length - km) (vc - km))).heap.size ((w5.setCell ⟨w1.heap.size + 1, 1, none⟩ (.int .u64 (t : Int))).setCell ⟨w1.heap.size + 1, 2, none⟩ (.slice (some A2) (d.length - km) (vc - km))) (.slice (some A2) (d.length - km) (vc - km)) (d.drop km) := by
                have h := (Bs.drop (hB1.below (hb7 (.slice (some A2) (d.length - km) (vc - km)))) km hkm3)
                rw [hcl2] at h
                exact h.mono (by rw [hz7]; omega)
              have E := fin _ _ _ _ _ hV hBf (fun j hj => by have e := Option.some.inj hj; omega) (hb0.trans (hbb.mono (by omega)))
              have z0' := z0 (.slice (some A2) (d.length - km) (vc - km))
              have z1' := z1 (.slice (some A2) (d.length - km) (vc - km))
              have z2' := z2 (.slice (some A2) (d.length - km) (vc - km))
              clear hcs bad fin hto hp1 hp2 hV hB1 hb6 hBk hBf q7 hs7 hb7 hob z0 z1 z2
              go_wp2
              (try simp only [Exit.inBlock, Exit.then])
              refine bodyPost_ret (results_sn rfl _ _ w.heap.size _ _ _ rfl (sn_set hbk.out _ _ _)) rfl ?_
              exact (E _ _ _).out
    · have hV : snOf l = (0, 0, [], false) := by
        unfold snOf snDec
        rw [hx]
        dsimp only
        rw [if_neg hk]
      have bd := fun W => bad W hV
      clear bad fin hV
      generalize DecsT w (snOf l) = T at *
      have two : n ≠ l.length ∨ (n = l.length ∧ k ≠ 3) := by
        by_cases h : n = l.length
        · exact .inr ⟨h, fun g => hk ⟨g, h⟩⟩
        · exact .inl h
      clear hk
      rcases two with h | ⟨h, g⟩
      · have hni : ¬ (n : Int) = (l.length : Int) := by omega
        have hnj : ((n : Int) != (l.length : Int)) = true := by simp; omega
        go_enter Tryz.func83, Tryz.ntmps83
        go_wp2_with fail
        refine kn.mono ?_
        rintro e' w1 ⟨v', rfl, hB', hv', hb1⟩
        have hsh : ∃ a n c, v' = .slice a n c := by
          obtain ⟨a, c, e, -⟩ := id hB'
          exact ⟨a, _, c, e⟩
        obtain ⟨va, vn, vc, rfl⟩ := hsh
        have hbx := hb1.alloc (by have := hb1.size; omega) (.cells #[.int .u8 (k : Int), .slice va vn vc] 165)
        obtain ⟨c0, c1, c2, f0, f1, f2, hbk⟩ := hcs _ hbx
        have E := bd _ (hb0.trans (hbx.mono (by omega)))
        clear kn hB' hv' hcs bd
        simp only [nrV]
        go_wp2
        (try simp only [Exit.inBlock, Exit.then])
        refine bodyPost_ret (results_sn rfl _ _ w.heap.size _ _ _ rfl (sn_set hbk.out _ _ _)) rfl ?_
        exact (E _ _ _).out
      · subst h
        have hki : ¬ (k : Int) = 3 := by omega
        have hkj : ((k : Int) != 3) = true := by simp; omega
        go_enter Tryz.func83, Tryz.ntmps83
        go_wp2_with fail
        refine kn.mono ?_
        rintro e' w1 ⟨v', rfl, hB', hv', hb1⟩
        have hsh : ∃ a n c, v' = .slice a n c := by
          obtain ⟨a, c, e, -⟩ := id hB'
          exact ⟨a, _, c, e⟩
        obtain ⟨va, vn, vc, rfl⟩ := hsh
        have hbx := hb1.alloc (by have := hb1.size; omega) (.cells #[.int .u8 (k : Int), .slice va vn vc] 165)
        obtain ⟨c0, c1, c2, f0, f1, f2, hbk⟩ := hcs _ hbx
        have E := bd _ (hb0.trans (hbx.mono (by omega)))
        clear kn hB' hv' hcs bd
        simp only [nrV]
        go_wp2
        (try simp only [Exit.inBlock, Exit.then])
        refine bodyPost_ret (results_sn rfl _ _ w.heap.size _ _ _ rfl (sn_set hbk.out _ _ _)) rfl ?_
        exact (E _ _ _).out
end Go.Proofs.YtoipjmjhplkibaaGreatDoor.Fr

