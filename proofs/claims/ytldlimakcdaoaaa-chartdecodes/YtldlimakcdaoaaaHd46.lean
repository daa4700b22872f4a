import Derived.Test.YtldlimakcdaoaaaHd18
import Derived.Test.YtldlimakcdaoaaaHd45
/- The contracts of Encode. -/
namespace Go.Proofs.Ytldlimakcdaoaaa
open Go.RowKit SpanMath ChartMath WireMath
set_option maxRecDepth 100000
set_option linter.unusedSimpArgs false
set_option linter.unusedVariables false

theorem cell_of_marked {w : World} {b : Nat} {cs : Array Value} {t : TypeId} {fz : Nat × Nat} (h : w.heap[b]? = some (.cells cs t fz)) (i : Nat) : w.cell? ⟨b, i, none⟩ = cs[i]? := by
  simp [World.cell?, h]
/-- '[]byte(s)'. -/
def CvT (W : World) (k : K) (v : Value) (W' : World) : Prop := Wi.Bs W'.heap.size W' v (kb k) ∧ Below W.heap.size W W'
theorem conv_at (W : World) (k : K) (hk : k.length ≤ 1000) : ∃ v W', (convert 9 58 (.string (bk k))).run Try.prog W = .ok v W' ∧ CvT W k v W' := by
  have hrun := run_bytes_of_string (P := Try.prog) W 9 58 5 (bk k) Try.underlying9 Try.underlying58 Try.underlying5
  have hge := grownCap_ge W (bk k).size 0 5
  have hle := grownCap_le_maxLen W (bk k).size 0 5 (by rw [bk_size]; unfold maxLen; omega)
  refine ⟨_, _, hrun, ⟨?_, (Below.refl _ _).drew.alloc (Nat.le_refl _) _⟩⟩
  have hnew := heap_alloc_new W.drew (.cells (bytesRow (bk k) (grownCap W (bk k).size 0 5)) 5 ((bytesRow (bk k) (grownCap W (bk k).size 0 5)).size, (bytesRow (bk k) (grownCap W (bk k).size 0 5)).size + 1))
  refine ⟨_, _, by rw [kb_len, bk_size], by rw [kb_len, ← bk_size k]; exact hge, hle, (fun e => by cases e), fun hne => ⟨W.heap.size, 0, rfl, by simp, fun j c hj => ?_⟩⟩
  have hj' : j < k.length := by
    have := (List.getElem?_eq_some_iff.1 hj).1
    rw [kb_len] at this
    exact this
  have hcell : (bytesRow (bk k) (grownCap W (bk k).size 0 5))[j]? = some (.int .u8 (c : Int)) := by
    rw [bytesRow_at _ _ _ (by simpa [bk] using hj')]
    unfold kb at hj
    rw [List.getElem?_map, List.getElem?_eq_getElem hj'] at hj
    simp only [Option.map_some, Option.some.injEq] at hj
    rw [← hj]
    simp [bk]
  have hn2 : (W.drew.alloc (.cells (bytesRow (bk k) (grownCap W (bk k).size 0 5)) 5 ((bytesRow (bk k) (grownCap W (bk k).size 0 5)).size, (bytesRow (bk k) (grownCap W (bk k).size 0 5)).size + 1))).heap[W.heap.size]? = _ := hnew
  have h0j : (0 : Nat) + j = j := Nat.zero_add j
  rw [h0j, cell_of_marked hn2]
  exact hcell

theorem uv_len10' {n : Nat} (h : n < 18446744073709551616) : (uv n).length ≤ 10 := uv_len10 h
theorem rB_len {r : Rg} (h : rOk r = true) : (rB r).length ≤ 200 := by
  simp only [rOk, gOk, eOk, Bool.and_eq_true, decide_eq_true_eq] at h
  obtain ⟨⟨hmay, hg1, hg2⟩, he1, he2⟩ := h
  obtain ⟨⟨hf, ht⟩, _⟩ := may_iff.1 hmay
  unfold rB sB
  simp only [List.length_append, kb_len]
  have a1 := uv_len10 (n := r.1.1.length) (by omega)
  have a2 := uv_len10 (n := r.1.2.length) (by omega)
  have a3 := uv_len10 (n := r.2.1.toNat) (by omega)
  have a4 := uv_len10 (n := r.2.2.toNat) (by omega)
  omega
theorem flat_len {l : List Rg} (h : ∀ r ∈ l, rOk r = true) : (l.flatMap rB).length ≤ 200 * l.length := by
  induction l with
  | nil => simp
  | cons r l ih =>
    have h1 := rB_len (h r (by simp))
    have h2 := ih fun x hx => h x (List.mem_cons_of_mem _ hx)
    rw [List.flatMap_cons, List.length_append, List.length_cons]
    omega
theorem flat_take {l : List Rg} {i : Nat} {r : Rg} (h : l[i]? = some r) : (l.take (i + 1)).flatMap rB = (l.take i).flatMap rB ++ rB r := by
  rw [take_succ_get h, List.flatMap_append]
  simp
/-- Bytes as they are read. -/
def Bn (w : World) (v : Value) (l : List Nat) : Prop := Wi.Bs w.heap.size w v l
theorem Bn.below {w w' : World} {v : Value} {l : List Nat} (h : Bn w v l) (hb : Below w.heap.size w w') : Bn w' v l := Wi.Bs.mono (Wi.Bs.below h hb) hb.size

/-- What Encode tells. -/
def EncT (ok : Bool) (m : List Nat) (e : Ending) (w' : World) : Prop := ∃ v c, e = .returned (.tuple #[v, .int .i64 c]) ∧ if ok then c = 0 ∧ Bn w' v m else c = 1 ∧ v = .slice none 0 0
set_option maxHeartbeats 8000000 in
theorem enc_of (l : List Rg) (lv : Value) (w : World) (hF : Cv w lv l) : Calls Try.prog 32 #[lv] w fun e w' => EncT (mayC l) (encB l) e w' ∧ Below w.heap.size w w' := by
  obtain ⟨T, HT⟩ : ∃ T, Hid (T = EncT (mayC l) (encB l)) := ⟨_, rfl⟩
  rw [← HT.out]
  have kc := ccheck_of l lv w hF
  obtain ⟨ao, cap, rfl, h2⟩ := id hF
  cases hm : mayC l with
  | false =>
    rw [hm] at kc
    simp only [Bool.false_eq_true, if_false] at kc
    have E1 : Hid (∀ W, T (.returned (.tuple #[.slice none 0 0, .int .i64 1])) W) := fun W => by rw [HT.out, hm]; exact ⟨_, _, rfl, rfl, rfl⟩
    clear HT hm hF h2
    go_enter Try.func32, Try.ntmps32
    go_wp2_with fail
    refine kc.mono ?_
    rintro e w1 ⟨rfl, hb1⟩
    go_wp2
    go_ret2
    exact ⟨E1.out _, hb1⟩
  | true =>
    rw [hm] at kc
    simp only [if_true] at kc
    have hC := mayC_iff.1 hm
    have hl64 := hC.len
    have HT1 : Hid (T = EncT true (uv l.length ++ (l.take l.length).flatMap rB)) := by show _ = _; rw [HT.out, hm, List.take_length]; rfl
    have kU := fun W => Wi.uvarint_of 0 [] (.slice none 0 0) l.length W (Wi.Bs.nil _ _) (by omega) (by simp)
    have hul := uv_len10 (n := l.length) (by omega)
    have hwl : IntKind.u64.wrap (l.length : Int) = (l.length : Int) := IntWalk.u64_in _ (by omega)
    clear HT hm h2
    go_enter Try.func32, Try.ntmps32
    go_wp2_with fail
    refine kc.mono ?_
    rintro e w1 ⟨rfl, hb1⟩
    have kU1 := kU w1
    clear kc kU
    go_wp2_with fail
    refine kU1.mono ?_
    rintro e w2 ⟨v2, rfl, hO2, hb2'⟩
    have hb2 := hb1.trans (hb2'.mono hb1.size)
    have hB2 : Bn w2 v2 (uv l.length ++ (l.take 0).flatMap rB) := by
      have h9 := hO2.bs
      have e9 : [] ++ uv l.length = uv l.length ++ (l.take 0).flatMap rB := by simp
      rw [e9] at h9
      exact h9
    clear kU1 hO2 hb2' hb1
    go_wp2
    go_loopg [4, 16] l.length (fun gg sB sI wr => ∃ (i : Nat) (bv : Value), i + gg = l.length ∧ sI = .int .i64 (i : Int) ∧ bv = sB ∧ Bn wr bv (uv l.length ++ (l.take i).flatMap rB) ∧ Below w.heap.size w wr)
    case atStart => exact ⟨0, _, by simp, rfl, rfl, hB2, hb2⟩
    case round =>
      obtain ⟨i, bv, hig, rfl, rfl, hB, hb⟩ := hrel
      clear hB2 hb2
      by_cases hlt : i < l.length
      · have hlti : (i : Int) < (l.length : Int) := by omega
        have hx : l[i]? = some l[i] := List.getElem?_eq_getElem hlt
        obtain ⟨b, off, rfl, cx⟩ := cv_at hF hx
        obtain ⟨s, hs⟩ : ∃ s, s = l[i] := ⟨_, rfl⟩
        rw [← hs] at hx cx
        have hok := hC.ok s (List.mem_of_getElem? hx)
        have HN : Hid ((l.take (i + 1)).flatMap rB = (l.take i).flatMap rB ++ rB s) := flat_take hx
        have hLi : ((l.take i).flatMap rB).length ≤ 12800 := by
          have h9 := flat_len (l := l.take i) (fun r hr => hC.ok r (List.mem_of_mem_take hr))
          rw [List.length_take] at h9
          omega
        obtain ⟨⟨s1, s2⟩, sg, se⟩ := s
        simp only [rOk, gOk, eOk, Bool.and_eq_true, decide_eq_true_eq] at hok
        obtain ⟨⟨hmay, hg1, hg2⟩, he1, he2⟩ := hok
        obtain ⟨⟨hf1, ht1⟩, _⟩ := may_iff.1 hmay
        dsimp only at hf1 ht1 cx hg1 hg2 he1 he2
        obtain ⟨G, rfl⟩ : ∃ G : Nat, sg = (G : Int) := ⟨sg.toNat, by omega⟩
        obtain ⟨P, rfl⟩ : ∃ P : Nat, se = (P : Int) := ⟨se.toNat, by omega⟩
        have HR : Hid (rB ((s1, s2), (G : Int), (P : Int)) = uv (kb s1).length ++ kb s1 ++ (uv (kb s2).length ++ kb s2) ++ uv G ++ uv P) := by show _ = _; simp [rB, sB]
        have hk1 := kb_len s1
        have hk2 := kb_len s2
        have hu1 := uv_len10 (n := (kb s1).length) (by omega)
        have hu2 := uv_len10 (n := (kb s2).length) (by omega)
        have hu3 := uv_len10 (n := G) (by omega)
        have hgw : IntKind.u64.wrap (G : Int) = (G : Int) := IntWalk.u64_in _ (by omega)
        obtain ⟨c0, c1, c2, c3⟩ := cx wr hb
        obtain ⟨q1, q2, q3⟩ := one_box wr (.cells #[.string (bk s1), .string (bk s2), .int .i64 (G : Int), .int .u64 (P : Int)] 42)
        have hba := hb.trans (q3.mono hb.size)
        have hBa := hB.below q3
        have A0 : Hid (uv l.length ++ (l.take (i + 1)).flatMap rB = ((((uv l.length ++ (l.take i).flatMap rB) ++ uv (kb s1).length ++ kb s1) ++ uv (kb s2).length ++ kb s2) ++ uv G) ++ uv P) := by show _ = _; rw [HN.out, HR.out]; simp only [List.append_assoc]
        have hL0 : (uv l.length ++ (l.take i).flatMap rB).length ≤ 13000 := by rw [List.length_append]; omega
        clear HN HR hs cx hx hB hmay hLi
        obtain ⟨v1, x1, hcv1, hT1⟩ := conv_at (wr.alloc (.cells #[.string (bk s1), .string (bk s2), .int .i64 (G : Int), .int .u64 (P : Int)] 42)) s1 (by omega)
        have HT1' : Hid (CvT (wr.alloc (.cells #[.string (bk s1), .string (bk s2), .int .i64 (G : Int), .int .u64 (P : Int)] 42)) s1 v1 x1) := hT1
        clear hT1
        generalize (uv l.length ++ (l.take i).flatMap rB) = L0 at *
        go_wp2_with fail
        generalize (wr.alloc (.cells #[.string (bk s1), .string (bk s2), .int .i64 (G : Int), .int .u64 (P : Int)] 42)) = wa at *
        generalize wr.heap.size = Nb at *
        obtain ⟨hB1, hb1'⟩ := HT1'.out
        have hbx1 := hba.trans (hb1'.mono hba.size)
        have bx1 := (hb1'.block Nb (Array.getElem?_eq_some_iff.1 q2).1).trans q2
        have kB1 := Wi.bytes_of _ _ L0 (kb s1) bv v1 x1 (hBa.below hb1') hB1 (Nat.le_refl _) (by omega)
        clear HT1' hcv1 q1 q2 q3 hBa hB1 c0 c1 c2 c3
        refine kB1.mono ?_
        rintro e x2 ⟨b2, rfl, hO2, hb2'⟩
        have hbx2 := hbx1.trans (hb2'.mono hbx1.size)
        have bx2 := (hb2'.block Nb (Array.getElem?_eq_some_iff.1 bx1).1).trans bx1
        have hB2 : Bn x2 b2 (L0 ++ uv (kb s1).length ++ kb s1) := hO2.bs
        have hL2 : (L0 ++ uv (kb s1).length ++ kb s1).length ≤ 13100 := by simp only [List.length_append]; omega
        generalize (L0 ++ uv (kb s1).length ++ kb s1) = L2 at *
        have y1 : x2.cell? ⟨Nb, 1, none⟩ = some (.string (bk s2)) := by rw [cells_of_block bx2]; rfl
        obtain ⟨v2, x3, hcv2, hT2⟩ := conv_at x2 s2 (by omega)
        have HT2' : Hid (CvT x2 s2 v2 x3) := hT2
        clear hT2 kB1 hb2' hO2 hbx1 bx1 hb1'
        go_wp2_with fail
        obtain ⟨hB3, hb3'⟩ := HT2'.out
        have hbx3 := hbx2.trans (hb3'.mono hbx2.size)
        have bx3 := (hb3'.block Nb (Array.getElem?_eq_some_iff.1 bx2).1).trans bx2
        have kB2 := Wi.bytes_of _ _ L2 (kb s2) b2 v2 x3 (hB2.below hb3') hB3 (Nat.le_refl _) (by omega)
        clear HT2' hcv2 hB2 hB3 y1 hbx2 bx2
        refine kB2.mono ?_
        rintro e x4 ⟨b4, rfl, hO4, hb4'⟩
        have hbx4 := hbx3.trans (hb4'.mono hbx3.size)
        have bx4 := (hb4'.block Nb (Array.getElem?_eq_some_iff.1 bx3).1).trans bx3
        have hB4 : Bn x4 b4 (L2 ++ uv (kb s2).length ++ kb s2) := hO4.bs
        have hL4 : (L2 ++ uv (kb s2).length ++ kb s2).length ≤ 13200 := by simp only [List.length_append]; omega
        generalize (L2 ++ uv (kb s2).length ++ kb s2) = L4 at *
        have y2 : x4.cell? ⟨Nb, 2, none⟩ = some (.int .i64 (G : Int)) := by rw [cells_of_block bx4]; rfl
        have kB3 := Wi.uvarint_of _ L4 b4 G x4 hB4 (by omega) (by omega)
        clear kB2 hb4' hO4 hbx3 bx3 hb3'
        go_wp2_with fail
        refine kB3.mono ?_
        rintro e x5 ⟨b5, rfl, hO5, hb5'⟩
        have hbx5 := hbx4.trans (hb5'.mono hbx4.size)
        have bx5 := (hb5'.block Nb (Array.getElem?_eq_some_iff.1 bx4).1).trans bx4
        have hB5 : Bn x5 b5 (L4 ++ uv G) := hO5.bs
        have hL5 : (L4 ++ uv G).length ≤ 13300 := by simp only [List.length_append]; omega
        generalize (L4 ++ uv G) = L5 at *
        have y3 : x5.cell? ⟨Nb, 3, none⟩ = some (.int .u64 (P : Int)) := by rw [cells_of_block bx5]; rfl
        have kB4 := Wi.uvarint_of _ L5 b5 P x5 hB5 (by omega) (by omega)
        clear kB3 hb5' hO5 hbx4 bx4 y2 hB4
        go_wp2_with fail
        refine kB4.mono ?_
        rintro e x6 ⟨b6, rfl, hO6, hb6'⟩
        have hbx6 := hbx5.trans (hb6'.mono hbx5.size)
        have hB6 : Bn x6 b6 (L5 ++ uv P) := hO6.bs
        clear kB4 hb6' hO6 hbx5 bx5 y3 hB5
        go_wp2
        go_roundg (gk - 1)
        case measure => omega
        case rel => exact ⟨i + 1, b6, by omega, by go_num, rfl, by rw [A0.out]; exact hB6, hbx6⟩
      · have hlti : ¬ (i : Int) < (l.length : Int) := by omega
        obtain rfl : i = l.length := by omega
        have E1 : Hid (T (.returned (.tuple #[bv, .int .i64 0])) wr) := by
          show T _ _
          rw [HT1.out]
          exact ⟨_, _, rfl, rfl, hB⟩
        clear HT1 hB hF hC
        go_wp2
        go_ret2
        exact ⟨E1.out, hb⟩
end Go.Proofs.Ytldlimakcdaoaaa

