import Derived.Test.YtebkfkijlopmoaaHs36
import Derived.Test.YtebkfkijlopmoaaHs27
import Derived.Test.YtebkfkijlopmoaaHs28
/- The program's Encode. -/
namespace Go.Proofs.Ytebkfkijlopmoaa
open Go.RowKit SessionMath WireMath
set_option maxRecDepth 100000
set_option linter.unusedSimpArgs false
set_option linter.unusedVariables false

theorem rB_len {r : Ms} (h : seatB r = true) : (rB r).length ≤ 4200 := by
  obtain ⟨h1, h2, h3, h4, h5⟩ := seat_iff.1 h
  unfold rB sB
  simp only [List.length_append]
  have a1 := uv_len10 (n := r.cl.toNat) (by omega)
  have a2 := uv_len10 (n := r.sq) (by omega)
  have a3 := uv_len10 (n := r.rp.length) (by omega)
  omega
theorem flat_len {l : List Ms} (h : ∀ r ∈ l, seatB r = true) : (l.flatMap rB).length ≤ 4200 * l.length := by
  induction l with
  | nil => simp
  | cons r l ih =>
    have h1 := rB_len (h r (by simp))
    have h2 := ih fun x hx => h x (List.mem_cons_of_mem _ hx)
    rw [List.flatMap_cons, List.length_append, List.length_cons]
    omega
theorem flat_take {l : List Ms} {i : Nat} {r : Ms} (h : l[i]? = some r) : (l.take (i + 1)).flatMap rB = (l.take i).flatMap rB ++ rB r := by
  rw [take_succ_get h, List.flatMap_append]
  simp
/-- What Encode tells. -/
def EncT (ok : Bool) (m : List Nat) (e : Ending) (w' : World) : Prop := ∃ v c, e = .returned (.tuple #[v, .int .i64 c]) ∧ if ok then c = 0 ∧ Bn w' v m else c = 1 ∧ v = .slice none 0 0
set_option maxHeartbeats 8000000 in
theorem enc_of (zs : List Sz) (lv : Value) (w : World) (hL : SeatsV w lv zs) (hlen : zs.length ≤ 1000000) : Calls Try.prog 16 #[lv] w fun e w' => EncT (mayB (mes zs)) (encB (mes zs)) e w' ∧ Below w.heap.size w w' := by
  obtain ⟨T, HT⟩ : ∃ T, Hid (T = EncT (mayB (mes zs)) (encB (mes zs))) := ⟨_, rfl⟩
  rw [← HT.out]
  have kc := check_of zs lv w hL hlen
  have HL : Hid (SeatsV w lv zs) := hL
  obtain ⟨ao, cap, rfl, -, -⟩ := hL.1.shape
  clear hL
  cases hm : mayB (mes zs) with
  | false =>
    rw [hm] at kc
    simp only [Bool.false_eq_true, if_false] at kc
    have E1 : Hid (∀ W, T (.returned (.tuple #[.slice none 0 0, .int .i64 1])) W) := fun W => by rw [HT.out, hm]; exact ⟨_, _, rfl, rfl, rfl⟩
    clear HT hm HL
    go_enter Try.func16, Try.ntmps16
    go_wp2_with fail
    refine kc.mono ?_
    rintro e w1 ⟨rfl, hb1⟩
    go_wp2
    go_ret2
    exact ⟨E1.out _, hb1⟩
  | true =>
    rw [hm] at kc
    simp only [if_true] at kc
    have HOKS : Hid (∀ r ∈ mes zs, seatB r = true) := (may_iff.1 hm).1
    have hl8 : zs.length ≤ 8 := by have := may_len hm; simpa using this
    have HT1 : Hid (T = EncT true (uv zs.length ++ ((mes zs).take zs.length).flatMap rB)) := by show _ = _; rw [HT.out, hm, List.take_of_length_le (by simp)]; unfold encB; rw [List.length_map]
    have kU := fun W => Wi.uvarint_of 0 [] (.slice none 0 0) zs.length W (Wi.Bs.nil _ _) (by omega) (by simp)
    have hul := uv_len10 (n := zs.length) (by omega)
    have hwl : IntKind.u64.wrap (zs.length : Int) = (zs.length : Int) := IntWalk.u64_in _ (by omega)
    clear HT hm
    go_enter Try.func16, Try.ntmps16
    go_wp2_with fail
    refine kc.mono ?_
    rintro e w1 ⟨rfl, hb1⟩
    have kU1 := kU w1
    clear kc kU
    go_wp2_with fail
    refine kU1.mono ?_
    rintro e w2 ⟨v2, rfl, hO2, hb2'⟩
    have hb2 := hb1.trans (hb2'.mono hb1.size)
    have hB2 : Bn w2 v2 (uv zs.length ++ ((mes zs).take 0).flatMap rB) := by
      have h9 := hO2.bs
      have e9 : [] ++ uv zs.length = uv zs.length ++ ((mes zs).take 0).flatMap rB := by simp
      rw [e9] at h9
      exact h9
    clear kU1 hO2 hb2' hb1
    go_wp2
    go_loopg [4, 16] zs.length (fun gg s4 s16 wr => ∃ (i : Nat) (bv : Value), i + gg = zs.length ∧ s16 = .int .i64 (i : Int) ∧ bv = s4 ∧ Bn wr bv (uv zs.length ++ ((mes zs).take i).flatMap rB) ∧ Below w.heap.size w wr)
    case atStart => exact ⟨0, _, by simp, rfl, rfl, hB2, hb2⟩
    case round =>
      obtain ⟨i, bv, hig, rfl, rfl, hB, hb⟩ := hrel
      clear hB2 hb2
      by_cases hlt : i < zs.length
      · have hlti : (i : Int) < (zs.length : Int) := by omega
        have hx : zs[i]? = some zs[i] := List.getElem?_eq_getElem hlt
        obtain ⟨z, hzz⟩ : ∃ z, z = zs[i] := ⟨_, rfl⟩
        rw [← hzz] at hx
        clear hzz
        obtain ⟨b, off, rfl, cx⟩ := rds_at HL.out.1 hx
        have hzm := mes_at hx
        have hse := HOKS.out z.1 (List.mem_of_getElem? hzm)
        have HD : Hid (RepV w z) := HL.out.2 z (List.mem_of_getElem? hx)
        have HN : Hid (((mes zs).take (i + 1)).flatMap rB = ((mes zs).take i).flatMap rB ++ rB z.1) := flat_take hzm
        have hLi : (((mes zs).take i).flatMap rB).length ≤ 33600 := by
          have h9 := flat_len (l := (mes zs).take i) (fun r hr => HOKS.out r (List.mem_of_mem_take hr))
          rw [List.length_take, List.length_map] at h9
          omega
        have hzl := HD.out.len
        obtain ⟨⟨zc, P, sr⟩, sa, sn, sc⟩ := z
        obtain ⟨g1, g2, g3, g4, g5⟩ := seat_iff.1 hse
        dsimp only at *
        subst hzl
        obtain ⟨G, rfl⟩ : ∃ G : Nat, zc = (G : Int) := ⟨zc.toNat, by omega⟩
        have hu1 := uv_len10 (n := G) (by omega)
        have hu2 := uv_len10 (n := P) (by omega)
        have hu3 := uv_len10 (n := sr.length) (by omega)
        have hgw : IntKind.u64.wrap (G : Int) = (G : Int) := IntWalk.u64_in _ (by omega)
        have HR : Hid (rB ⟨(G : Int), P, sr⟩ = uv G ++ uv P ++ (uv sr.length ++ sr)) := by show _ = _; simp [rB, sB]
        obtain ⟨c0, c1, c2⟩ := cx wr hb
        obtain ⟨q1, q3, cl⟩ := st_box wr (⟨(G : Int), P, sr⟩, sa, sr.length, sc)
        dsimp only [ec] at q1 q3 cl
        have hba := hb.trans (q3.mono hb.size)
        have hBa := hB.below q3
        have A0 : Hid (uv zs.length ++ ((mes zs).take (i + 1)).flatMap rB = (((uv zs.length ++ ((mes zs).take i).flatMap rB) ++ uv G) ++ uv P) ++ uv sr.length ++ sr) := by show _ = _; rw [HN.out, HR.out]; simp only [List.append_assoc]
        have hL0 : (uv zs.length ++ ((mes zs).take i).flatMap rB).length ≤ 34000 := by rw [List.length_append]; omega
        clear HN HR cx hx hB hzm hse hLi HL HOKS HT1
        generalize (uv zs.length ++ ((mes zs).take i).flatMap rB) = L0 at *
        have kB1 := Wi.uvarint_of _ L0 bv G (wr.alloc (.cells #[.int .i64 (G : Int), .int .u64 (P : Int), .slice sa sr.length sc] 49)) hBa (by omega) (by omega)
        obtain ⟨x0, x1, x2⟩ := cl _ (Below.refl _ _)
        have hszr : Hid (wr.heap.size + 1 ≤ (wr.alloc (.cells #[.int .i64 (G : Int), .int .u64 (P : Int), .slice sa sr.length sc] 49)).heap.size) := by show _ ≤ _; omega
        go_wp2_with fail
        generalize hNb : wr.heap.size = Nb at *
        generalize wr.alloc (.cells #[.int .i64 (G : Int), .int .u64 (P : Int), .slice sa sr.length sc] 49) = wa at *
        clear hNb
        refine kB1.mono ?_
        rintro e y1 ⟨b1, rfl, hO1, hb1'⟩
        have hby1 := hba.trans (hb1'.mono hba.size)
        have hk1 : Below (Nb + 1) wa y1 := hb1'.mono hszr.out
        have hB1 : Bn y1 b1 (L0 ++ uv G) := hO1.bs
        have hL1 : (L0 ++ uv G).length ≤ 34100 := by rw [List.length_append]; omega
        generalize (L0 ++ uv G) = L1 at *
        obtain ⟨z0, z1, z2⟩ := cl _ hk1
        have kB2 := Wi.uvarint_of _ L1 b1 P y1 hB1 (by omega) (by omega)
        clear kB1 hO1 hb1' hBa hba x0 x1 x2 c0 c1 c2
        go_wp2_with fail
        refine kB2.mono ?_
        rintro e y2 ⟨b2, rfl, hO2, hb2'⟩
        have hby2 := hby1.trans (hb2'.mono hby1.size)
        have hk2 := keep_step hk1 hszr.out hb2'
        have hB2 : Bn y2 b2 (L1 ++ uv P) := hO2.bs
        have hL2 : (L1 ++ uv P).length ≤ 34200 := by rw [List.length_append]; omega
        generalize (L1 ++ uv P) = L2 at *
        clear z0 z1 z2 hk1
        obtain ⟨z0, z1, z2⟩ := cl _ hk2
        have kB3 := Wi.bytes_of _ _ L2 sr b2 (.slice sa sr.length sc) y2 hB2 (HD.out.below hby2) (Nat.le_refl _) (by omega)
        clear kB2 hO2 hb2' hby1 hB1
        go_wp2_with fail
        refine kB3.mono ?_
        rintro e y3 ⟨b3, rfl, hO3, hb3'⟩
        have hby3 := hby2.trans (hb3'.mono hby2.size)
        have hB3 : Bn y3 b3 (L2 ++ uv sr.length ++ sr) := hO3.bs
        clear kB3 hO3 hb3' hby2 hB2 z0 z1 z2 hk2 cl
        go_wp2
        go_roundg (gk - 1)
        case measure => omega
        case rel => exact ⟨i + 1, b3, by omega, by go_num, rfl, by rw [A0.out]; exact hB3, hby3⟩
      · have hlti : ¬ (i : Int) < (zs.length : Int) := by omega
        obtain rfl : i = zs.length := by omega
        have E1 : Hid (T (.returned (.tuple #[bv, .int .i64 0])) wr) := by
          show T _ _
          rw [HT1.out]
          exact ⟨_, _, rfl, rfl, hB⟩
        clear HT1 hB HL HOKS
        go_wp2
        go_ret2
        exact ⟨E1.out, hb⟩
end Go.Proofs.Ytebkfkijlopmoaa

