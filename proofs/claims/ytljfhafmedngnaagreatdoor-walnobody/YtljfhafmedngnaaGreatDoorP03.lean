import Derived.Shelf.Small.Wraps
import Derived.Shelf.Strconv.Itoa0
import Derived.Shelf.Strconv.Itoa1
import Derived.Shelf.LaysM
import Derived.Shelf.Strconv.Itoa2
import Derived.Shelf.Strconv.Itoa3
import Derived.Ground.MpProg
import Derived.Shelf.Pu.ParseUintPublic10
import Derived.Test.YtljfhafmedngnaaGreatDoorProg
/- The library's contracts of strings.CutPrefix, cmp.Compare, strconv.Itoa and strconv.ParseUint, laid at this program (printed by the kit's own command, in plain words). -/
namespace Go.Proofs
open Go.Shelf
def Tryz.lays103_ren : Go.Shelf.Ren := ⟨fun | 103 => 116 | 210 => 137 | 206 => 159 | n => n, fun | 9 => 9 | 4 => 4 | 24 => 176 | 3 => 3 | n => n, fun | n => n⟩
theorem Tryz.lays103 : Go.Proofs.Lays.n103 Tryz.prog Tryz.lays103_ren := {
  mixed := by kernel_rfl
  f103 := Tryz.func116.trans (congrArg some (by kernel_rfl))
  f206 := Tryz.func159.trans (congrArg some (by kernel_rfl))
  f210 := Tryz.func137.trans (congrArg some (by kernel_rfl))
  t3 := Tryz.underlying3
  a3 := Tryz.isAgg3
  z3 := Tryz.sizeOf3
  v3 := Tryz.zeroValue3
  t4 := Tryz.underlying4
  a4 := Tryz.isAgg4
  z4 := Tryz.sizeOf4
  v4 := Tryz.zeroValue4
  t9 := Tryz.underlying9
  a9 := Tryz.isAgg9
  z9 := Tryz.sizeOf9
  v9 := Tryz.zeroValue9
  t24 := Tryz.underlying176
  a24 := Tryz.isAgg176
  z24 := Tryz.sizeOf176
  v24 := Tryz.zeroValue176 }
open Go.RowKit in
theorem Tryz.strings_CutPrefix (s p : ByteArray) (w : World) :
    Calls Tryz.prog 116 #[.string s, .string p] w fun e w' => e = .returned (.tuple #[.string ⟨(Lib.trimPrefix s.data.toList p.data.toList).toArray⟩, .bool (Lib.hasPrefix s.data.toList p.data.toList)]) ∧ w' = w := Any.strings_CutPrefix Tryz.lays103 s p w
def Tryz.lays122_ren : Go.Shelf.Ren := ⟨fun | 122 => 98 | 215 => 119 | n => n, fun | 3 => 3 | 4 => 4 | n => n, fun | n => n⟩
theorem Tryz.lays122 : Go.Proofs.Lays.n122 Tryz.prog Tryz.lays122_ren := {
  mixed := by kernel_rfl
  f122 := Tryz.func98.trans (congrArg some (by kernel_rfl))
  f215 := Tryz.func119.trans (congrArg some (by kernel_rfl))
  t3 := Tryz.underlying3
  a3 := Tryz.isAgg3
  z3 := Tryz.sizeOf3
  v3 := Tryz.zeroValue3
  t4 := Tryz.underlying4
  a4 := Tryz.isAgg4
  z4 := Tryz.sizeOf4
  v4 := Tryz.zeroValue4 }
open Go.RowKit in
theorem Tryz.cmp_Compare_int (x y : Int) (w : World) :
    Calls Tryz.prog 98 #[.int .i64 x, .int .i64 y] w fun e w' => e = .returned (.int .i64 (Lib.compareInt x y)) ∧ w' = w := Any.cmp_Compare_int Tryz.lays122 x y w
def Tryz.laysM171_ren : Go.Shelf.Ren := ⟨fun | 171 => 87 | 243 => 110 | 246 => 129 | 283 => 154 | 284 => 155 | 285 => 156 | 286 => 157 | 129 => 152 | 317 => 173 | 318 => 174 | 319 => 175 | 320 => 176 | 337 => 180 | 338 => 181 | n => n, fun | 3 => 3 | 9 => 9 | 2 => 2 | 4 => 4 | 171 => 213 | 0 => 0 | 53 => 31 | 37 => 32 | 5 => 5 | 173 => 215 | 212 => 230 | 51 => 166 | 20 => 20 | 213 => 231 | 46 => 168 | 232 => 240 | 233 => 241 | n => n, fun | 17 => 1 | 18 => 4 | 19 => 5 | n => n⟩
theorem Tryz.laysM171 : Go.Proofs.LaysM.n171 Tryz.prog Tryz.laysM171_ren := {
  mixed := by kernel_rfl
  f129 := Tryz.func152.trans (congrArg some (by kernel_rfl))
  f171 := Tryz.func87.trans (congrArg some (by kernel_rfl))
  f243 := Tryz.func110.trans (congrArg some (by kernel_rfl))
  f246 := Tryz.func129.trans (congrArg some (by kernel_rfl))
  f283 := Tryz.func154.trans (congrArg some (by kernel_rfl))
  f284 := Tryz.func155.trans (congrArg some (by kernel_rfl))
  f285 := Tryz.func156.trans (congrArg some (by kernel_rfl))
  f286 := Tryz.func157.trans (congrArg some (by kernel_rfl))
  f317 := Tryz.func173.trans (congrArg some (by kernel_rfl))
  f318 := Tryz.func174.trans (congrArg some (by kernel_rfl))
  f319 := Tryz.func175.trans (congrArg some (by kernel_rfl))
  f320 := Tryz.func176.trans (congrArg some (by kernel_rfl))
  f337 := Tryz.func180.trans (congrArg some (by kernel_rfl))
  f338 := Tryz.func181.trans (congrArg some (by kernel_rfl))
  t0 := Tryz.underlying0
  a0 := Tryz.isAgg0
  z0 := Tryz.sizeOf0
  v0 := Tryz.zeroValue0
  t2 := Tryz.underlying2
  a2 := Tryz.isAgg2
  z2 := Tryz.sizeOf2
  v2 := Tryz.zeroValue2
  t3 := Tryz.underlying3
  a3 := Tryz.isAgg3
  z3 := Tryz.sizeOf3
  v3 := Tryz.zeroValue3
  t4 := Tryz.underlying4
  a4 := Tryz.isAgg4
  z4 := Tryz.sizeOf4
  v4 := Tryz.zeroValue4
  t5 := Tryz.underlying5
  a5 := Tryz.isAgg5
  z5 := Tryz.sizeOf5
  v5 := Tryz.zeroValue5
  t9 := Tryz.underlying9
  a9 := Tryz.isAgg9
  z9 := Tryz.sizeOf9
  v9 := Tryz.zeroValue9
  t20 := Tryz.underlying20
  a20 := Tryz.isAgg20
  z20 := Tryz.sizeOf20
  v20 := Tryz.zeroValue20
  t37 := Tryz.underlying32
  a37 := Tryz.isAgg32
  z37 := Tryz.sizeOf32
  v37 := Tryz.zeroValue32
  t46 := Tryz.underlying168
  a46 := Tryz.isAgg168
  z46 := Tryz.sizeOf168
  v46 := Tryz.zeroValue168
  t51 := Tryz.underlying166
  a51 := Tryz.isAgg166
  z51 := Tryz.sizeOf166
  v51 := Tryz.zeroValue166
  t53 := Tryz.underlying31
  a53 := Tryz.isAgg31
  z53 := Tryz.sizeOf31
  v53 := Tryz.zeroValue31
  t171 := Tryz.underlying213
  a171 := Tryz.isAgg213
  z171 := Tryz.sizeOf213
  v171 := Tryz.zeroValue213
  t173 := Tryz.underlying215
  a173 := Tryz.isAgg215
  z173 := Tryz.sizeOf215
  v173 := Tryz.zeroValue215
  t212 := Tryz.underlying230
  a212 := Tryz.isAgg230
  z212 := Tryz.sizeOf230
  v212 := Tryz.zeroValue230
  t213 := Tryz.underlying231
  a213 := Tryz.isAgg231
  z213 := Tryz.sizeOf231
  t232 := Tryz.underlying240
  a232 := Tryz.isAgg240
  z232 := Tryz.sizeOf240
  v232 := Tryz.zeroValue240
  t233 := Tryz.underlying241
  a233 := Tryz.isAgg241
  z233 := Tryz.sizeOf241
  v233 := Tryz.zeroValue241
  g17 := by kernel_rfl
  g18 := by kernel_rfl
  g19 := by kernel_rfl
  i0 := by kernel_rfl
  i2 := by kernel_rfl
  i3 := by kernel_rfl
  i4 := by kernel_rfl
  i5 := by kernel_rfl
  i9 := by kernel_rfl
  i20 := by kernel_rfl
  i37 := by kernel_rfl
  i46 := by kernel_rfl
  i51 := by kernel_rfl
  i53 := by kernel_rfl
  i171 := by kernel_rfl
  i173 := by kernel_rfl
  i212 := by kernel_rfl
  i232 := by kernel_rfl
  i233 := by kernel_rfl
  m17 := by kernel_rfl
  m18 := by kernel_rfl
  m19 := by kernel_rfl }
open Go.RowKit Go.Sort Go.Lib in
theorem Tryz.strconv_Itoa (n : Int) (h0 : -9223372036854775808 ≤ n) (h1 : n ≤ 9223372036854775807) (w : World) (htab : Lib.TabIs Tryz.prog w "internal/strconv.uint64pow10" .u64 Lib.pow10Tab) :
    Calls Tryz.prog 87 #[.int .i64 n] w fun e w' => e = .returned (.string ⟨(Lib.itoa n).toArray⟩) ∧ ∃ k os, w' = grow (w.drewN k) os := Any.strconv_Itoa Tryz.laysM171 n h0 h1 w htab
def Tryz.laysPu14_ren : Go.Shelf.Ren := ⟨fun | 14 => 117 | 16 => 138 | 17 => 139 | 19 => 160 | 20 => 161 | 21 => 162 | 22 => 163 | 23 => 164 | 24 => 165 | 25 => 120 | 27 => 87 | 26 => 177 | 28 => 110 | 29 => 129 | 30 => 154 | 31 => 155 | 32 => 156 | 33 => 157 | 35 => 152 | 34 => 173 | 36 => 174 | 37 => 175 | 38 => 176 | 39 => 180 | 40 => 181 | n => n, fun | 9 => 9 | 3 => 3 | 22 => 31 | 24 => 179 | 25 => 180 | 4 => 4 | 34 => 218 | 5 => 5 | 36 => 168 | 37 => 32 | 0 => 0 | 39 => 220 | 21 => 21 | 44 => 233 | 47 => 201 | 50 => 239 | 48 => 237 | 2 => 2 | 52 => 213 | 55 => 215 | 59 => 230 | 60 => 166 | 20 => 20 | 61 => 231 | 65 => 240 | 66 => 241 | 67 => 77 | n => n, fun | 0 => 2 | 1 => 3 | 2 => 1 | 3 => 4 | 4 => 5 | n => n⟩
theorem Tryz.laysPu14 : Go.Proofs.LaysPu.n14 Tryz.prog Tryz.laysPu14_ren := {
  mixed := by kernel_rfl
  f14 := Tryz.func117.trans (congrArg some (by kernel_rfl))
  f16 := Tryz.func138.trans (congrArg some (by kernel_rfl))
  f17 := Tryz.func139.trans (congrArg some (by kernel_rfl))
  f19 := Tryz.func160.trans (congrArg some (by kernel_rfl))
  f20 := Tryz.func161.trans (congrArg some (by kernel_rfl))
  f21 := Tryz.func162.trans (congrArg some (by kernel_rfl))
  f22 := Tryz.func163.trans (congrArg some (by kernel_rfl))
  f23 := Tryz.func164.trans (congrArg some (by kernel_rfl))
  f24 := Tryz.func165.trans (congrArg some (by kernel_rfl))
  f25 := Tryz.func120.trans (congrArg some (by kernel_rfl))
  f26 := Tryz.func177.trans (congrArg some (by kernel_rfl))
  f27 := Tryz.func87.trans (congrArg some (by kernel_rfl))
  f28 := Tryz.func110.trans (congrArg some (by kernel_rfl))
  f29 := Tryz.func129.trans (congrArg some (by kernel_rfl))
  f30 := Tryz.func154.trans (congrArg some (by kernel_rfl))
  f31 := Tryz.func155.trans (congrArg some (by kernel_rfl))
  f32 := Tryz.func156.trans (congrArg some (by kernel_rfl))
  f33 := Tryz.func157.trans (congrArg some (by kernel_rfl))
  f34 := Tryz.func173.trans (congrArg some (by kernel_rfl))
  f35 := Tryz.func152.trans (congrArg some (by kernel_rfl))
  f36 := Tryz.func174.trans (congrArg some (by kernel_rfl))
  f37 := Tryz.func175.trans (congrArg some (by kernel_rfl))
  f38 := Tryz.func176.trans (congrArg some (by kernel_rfl))
  f39 := Tryz.func180.trans (congrArg some (by kernel_rfl))
  f40 := Tryz.func181.trans (congrArg some (by kernel_rfl))
  t0 := Tryz.underlying0
  a0 := Tryz.isAgg0
  z0 := Tryz.sizeOf0
  v0 := Tryz.zeroValue0
  i0 := by kernel_rfl
  t2 := Tryz.underlying2
  a2 := Tryz.isAgg2
  z2 := Tryz.sizeOf2
  v2 := Tryz.zeroValue2
  i2 := by kernel_rfl
  t3 := Tryz.underlying3
  a3 := Tryz.isAgg3
  z3 := Tryz.sizeOf3
  v3 := Tryz.zeroValue3
  i3 := by kernel_rfl
  t4 := Tryz.underlying4
  a4 := Tryz.isAgg4
  z4 := Tryz.sizeOf4
  v4 := Tryz.zeroValue4
  i4 := by kernel_rfl
  t5 := Tryz.underlying5
  a5 := Tryz.isAgg5
  z5 := Tryz.sizeOf5
  v5 := Tryz.zeroValue5
  i5 := by kernel_rfl
  t9 := Tryz.underlying9
  a9 := Tryz.isAgg9
  z9 := Tryz.sizeOf9
  v9 := Tryz.zeroValue9
  i9 := by kernel_rfl
  t20 := Tryz.underlying20
  a20 := Tryz.isAgg20
  z20 := Tryz.sizeOf20
  v20 := Tryz.zeroValue20
  i20 := by kernel_rfl
  t21 := Tryz.underlying21
  a21 := Tryz.isAgg21
  z21 := Tryz.sizeOf21
  v21 := Tryz.zeroValue21
  i21 := by kernel_rfl
  t22 := Tryz.underlying31
  a22 := Tryz.isAgg31
  z22 := Tryz.sizeOf31
  v22 := Tryz.zeroValue31
  i22 := by kernel_rfl
  t24 := Tryz.underlying179
  a24 := Tryz.isAgg179
  z24 := Tryz.sizeOf179
  v24 := Tryz.zeroValue179
  i24 := by kernel_rfl
  t25 := Tryz.underlying180
  a25 := Tryz.isAgg180
  z25 := Tryz.sizeOf180
  v25 := Tryz.zeroValue180
  i25 := by kernel_rfl
  t34 := Tryz.underlying218
  a34 := Tryz.isAgg218
  z34 := Tryz.sizeOf218
  v34 := Tryz.zeroValue218
  i34 := by kernel_rfl
  c34 := by kernel_rfl
  t36 := Tryz.underlying168
  a36 := Tryz.isAgg168
  z36 := Tryz.sizeOf168
  v36 := Tryz.zeroValue168
  i36 := by kernel_rfl
  t37 := Tryz.underlying32
  a37 := Tryz.isAgg32
  z37 := Tryz.sizeOf32
  v37 := Tryz.zeroValue32
  i37 := by kernel_rfl
  t39 := Tryz.underlying220
  a39 := Tryz.isAgg220
  z39 := Tryz.sizeOf220
  v39 := Tryz.zeroValue220
  i39 := by kernel_rfl
  t44 := Tryz.underlying233
  a44 := Tryz.isAgg233
  z44 := Tryz.sizeOf233
  v44 := Tryz.zeroValue233
  i44 := by kernel_rfl
  t47 := Tryz.underlying201
  a47 := Tryz.isAgg201
  z47 := Tryz.sizeOf201
  v47 := Tryz.zeroValue201
  i47 := by kernel_rfl
  t48 := Tryz.underlying237
  a48 := Tryz.isAgg237
  z48 := Tryz.sizeOf237
  v48 := Tryz.zeroValue237
  i48 := by kernel_rfl
  t50 := Tryz.underlying239
  a50 := Tryz.isAgg239
  z50 := Tryz.sizeOf239
  v50 := Tryz.zeroValue239
  i50 := by kernel_rfl
  t52 := Tryz.underlying213
  a52 := Tryz.isAgg213
  z52 := Tryz.sizeOf213
  v52 := Tryz.zeroValue213
  i52 := by kernel_rfl
  t55 := Tryz.underlying215
  a55 := Tryz.isAgg215
  z55 := Tryz.sizeOf215
  v55 := Tryz.zeroValue215
  i55 := by kernel_rfl
  t59 := Tryz.underlying230
  a59 := Tryz.isAgg230
  z59 := Tryz.sizeOf230
  v59 := Tryz.zeroValue230
  i59 := by kernel_rfl
  t60 := Tryz.underlying166
  a60 := Tryz.isAgg166
  z60 := Tryz.sizeOf166
  v60 := Tryz.zeroValue166
  i60 := by kernel_rfl
  t61 := Tryz.underlying231
  a61 := Tryz.isAgg231
  z61 := Tryz.sizeOf231
  t65 := Tryz.underlying240
  a65 := Tryz.isAgg240
  z65 := Tryz.sizeOf240
  v65 := Tryz.zeroValue240
  i65 := by kernel_rfl
  t66 := Tryz.underlying241
  a66 := Tryz.isAgg241
  z66 := Tryz.sizeOf241
  v66 := Tryz.zeroValue241
  i66 := by kernel_rfl
  t67 := Tryz.underlying77
  a67 := Tryz.isAgg77
  z67 := Tryz.sizeOf77
  v67 := Tryz.zeroValue77
  i67 := by kernel_rfl
  g0 := by kernel_rfl
  m0 := by kernel_rfl
  g1 := by kernel_rfl
  m1 := by kernel_rfl
  g2 := by kernel_rfl
  m2 := by kernel_rfl
  g3 := by kernel_rfl
  m3 := by kernel_rfl
  g4 := by kernel_rfl
  m4 := by kernel_rfl }
open Go.RowKit in
theorem Tryz.strconv_ParseUint_10_at32_ok (s : ByteArray) (hmax : s.size ≤ 9223372036854775806) (u : Nat) (h : Lib.parseUintB 32 s.data.toList = .ok u) (w : World) :
    Calls Tryz.prog 117 #[.string s, .int .i64 10, .int .i64 32] w fun e w' => e = .returned (.tuple #[.int .u64 u, .nilIface]) ∧ (w' = w ∨ w' = Lib.bytesWorld w 5 s) := Any.strconv_ParseUint_10_at32_ok Tryz.laysPu14 s hmax u h w
end Go.Proofs

/- Plain mathematics of numbers as bytes: digits to the base 128, and that a reader that takes no other form reads back just what was written. -/
namespace WireMath

/-- A number's bytes. -/
def uv (n : Nat) : List Nat := if h : n < 128 then [n] else (n % 128 + 128) :: uv (n / 128)
theorem uv_lt {n : Nat} (h : n < 128) : uv n = [n] := by rw [uv]; simp [h]
theorem uv_ge {n : Nat} (h : ¬ n < 128) : uv n = (n % 128 + 128) :: uv (n / 128) := by rw [uv]; simp [h]

theorem uv_bytes (n : Nat) : ∀ c ∈ uv n, c < 256 := by
  induction n using Nat.strongRecOn with
  | _ n ih =>
    by_cases h : n < 128
    · rw [uv_lt h]; simp; omega
    · rw [uv_ge h]
      intro c hc
      rcases List.mem_cons.1 hc with rfl | hc
      · omega
      · exact ih (n / 128) (by omega) c hc

theorem uv_pos (n : Nat) : 0 < (uv n).length := by
  by_cases h : n < 128
  · rw [uv_lt h]; simp
  · rw [uv_ge h]; simp

theorem uv_len {k n : Nat} (h : n < 128 ^ (k + 1)) : (uv n).length ≤ k + 1 := by
  induction k generalizing n with
  | zero => rw [uv_lt (by simpa using h)]; simp
  | succ k ih =>
    by_cases h1 : n < 128
    · rw [uv_lt h1]; simp
    · rw [uv_ge h1]
      have := ih (n := n / 128) (by rw [Nat.pow_succ] at h; omega)
      simpa using this

theorem uv_len10 {n : Nat} (h : n < 18446744073709551616) : (uv n).length ≤ 10 := uv_len (k := 9) (by omega)

/-- The reader: 'f' bytes may still come, 'i' have come, their digits make 'n'. What it gives: the number, and how many bytes it has. -/
def rd : Nat → Nat → Nat → List Nat → Option (Nat × Nat)
  | 0, _, _, _ => none
  | _ + 1, _, _, [] => none
  | f + 1, i, n, c :: r =>
    if i = 9 ∧ 1 < c % 128 then none
    else if c < 128 then (if c = 0 ∧ 0 < i then none else some (n + c * 128 ^ i, i + 1))
    else rd f (i + 1) (n + (c % 128) * 128 ^ i) r

theorem rd_uv (m : Nat) : ∀ (f i n : Nat) (rest : List Nat), f + i = 10 → (0 < i → 0 < m) → (uv m).length ≤ f → (i + (uv m).length = 10 → m < 2 * 128 ^ (9 - i)) →
    rd f i n (uv m ++ rest) = some (n + m * 128 ^ i, i + (uv m).length) := by
  induction m using Nat.strongRecOn with
  | _ m ih =>
    intro f i n rest hf hm hlen hbig
    obtain ⟨f, rfl⟩ : ∃ g, f = g + 1 := ⟨f - 1, by have := uv_pos m; omega⟩
    by_cases h : m < 128
    · rw [uv_lt h] at hbig ⊢
      simp only [List.cons_append, List.nil_append, rd]
      have h9 : ¬ (i = 9 ∧ 1 < m % 128) := by
        rintro ⟨rfl, h2⟩
        have := hbig (by simp)
        simp at this
        omega
      rw [if_neg h9, if_pos h, if_neg (by rintro ⟨h1, h2⟩; have := hm h2; omega)]
      simp
    · rw [uv_ge h] at hlen hbig ⊢
      simp only [List.length_cons] at hlen hbig
      have hp := uv_pos (m / 128)
      simp only [List.cons_append, rd]
      rw [if_neg (by omega), if_neg (by omega)]
      have hmod : (m % 128 + 128) % 128 = m % 128 := by omega
      rw [hmod, ih (m / 128) (by omega) f (i + 1) _ rest (by omega) (by omega) (by omega) ?_]
      · have e : n + m % 128 * 128 ^ i + m / 128 * 128 ^ (i + 1) = n + m * 128 ^ i := by
          have h1 : m * 128 ^ i = (m % 128) * 128 ^ i + (m / 128) * (128 ^ i * 128) := by
            have hm : m = m % 128 + m / 128 * 128 := by omega
            conv => lhs; rw [hm]
            rw [Nat.add_mul, Nat.mul_assoc, Nat.mul_comm 128 (128 ^ i)]
          rw [Nat.pow_succ, h1]
          omega
        rw [e]
        simp only [List.length_cons]
        congr 2
        omega
      · intro h10
        have h1 := hbig (by omega)
        have hi : i ≤ 8 := by omega
        obtain ⟨j, hj⟩ : ∃ j, 9 - i = j + 1 := ⟨8 - i, by omega⟩
        have hj' : 9 - (i + 1) = j := by omega
        rw [hj']
        rw [hj, Nat.pow_succ] at h1
        omega

/-- What was written is read back. -/
theorem read_back (n : Nat) (h : n < 18446744073709551616) (rest : List Nat) : rd 10 0 0 (uv n ++ rest) = some (n, (uv n).length) := by
  have := rd_uv n 10 0 0 rest rfl (by simp) (uv_len10 h) (by intro _; simpa using (show n < 2 * 128 ^ 9 by omega))
  simpa using this

/-- What is read is just what is written: no number has two forms. -/
theorem rd_form : ∀ (f i n : Nat) (l : List Nat) (v k : Nat), f + i = 10 → (∀ c ∈ l, c < 256) → rd f i n l = some (v, k) →
    ∃ m, v = n + m * 128 ^ i ∧ k = i + (uv m).length ∧ l.take (uv m).length = uv m ∧ (0 < i → 0 < m) ∧ (k ≤ 10) ∧ (k = 10 → m < 2 * 128 ^ (9 - i))
  | 0, _, _, _, _, _, _, _, h => by simp [rd] at h
  | f + 1, i, n, [], _, _, _, _, h => by simp [rd] at h
  | f + 1, i, n, c :: r, v, k, hf, hb, h => by
    have hc : c < 256 := hb c (by simp)
    simp only [rd] at h
    by_cases h9 : i = 9 ∧ 1 < c % 128
    · rw [if_pos h9] at h; cases h
    rw [if_neg h9] at h
    by_cases h1 : c < 128
    · rw [if_pos h1] at h
      by_cases h0 : c = 0 ∧ 0 < i
      · rw [if_pos h0] at h; cases h
      rw [if_neg h0] at h
      cases h
      refine ⟨c, rfl, by rw [uv_lt h1]; rfl, by rw [uv_lt h1]; rfl, by omega, by omega, ?_⟩
      intro h10
      have : i = 9 := by omega
      subst this
      simp
      omega
    · rw [if_neg h1] at h
      obtain ⟨m, e1, e2, e3, e4, e5, e6⟩ := rd_form f (i + 1) _ r v k (by omega) (fun c' h' => hb c' (List.mem_cons_of_mem _ h')) h
      have hm : 0 < m := e4 (by omega)
      have hu : uv (c % 128 + m * 128) = c :: uv m := by
        rw [uv_ge (by omega)]
        congr 1
        · omega
        · congr 1; omega
      refine ⟨c % 128 + m * 128, ?_, ?_, ?_, by omega, e5, ?_⟩
      · rw [e1, Nat.add_mul, Nat.pow_succ, Nat.mul_assoc m 128, Nat.mul_comm 128 (128 ^ i)]
        omega
      · rw [hu, e2]; simp only [List.length_cons]; omega
      · rw [hu]; simp only [List.length_cons, List.take_succ_cons, e3]
      · intro h10
        have h6 := e6 h10
        have hp := uv_pos m
        obtain ⟨j, hj⟩ : ∃ j, 9 - i = j + 1 := ⟨8 - i, by omega⟩
        have hj' : 9 - (i + 1) = j := by omega
        rw [hj'] at h6
        rw [hj, Nat.pow_succ]
        omega

theorem uv_val (n : Nat) : n < 128 ^ (uv n).length := by
  induction n using Nat.strongRecOn with
  | _ n ih =>
    by_cases h : n < 128
    · rw [uv_lt h]; simpa using h
    · rw [uv_ge h]
      have := ih (n / 128) (by omega)
      simp only [List.length_cons]
      rw [Nat.pow_succ]
      omega

theorem canonical (l : List Nat) (hb : ∀ c ∈ l, c < 256) (v k : Nat) (h : rd 10 0 0 l = some (v, k)) : l.take k = uv v ∧ k = (uv v).length ∧ k ≤ 10 ∧ v < 18446744073709551616 := by
  obtain ⟨m, e1, e2, e3, _, e5, e6⟩ := rd_form 10 0 0 l v k rfl hb h
  have ev : v = m := by simpa using e1
  subst ev
  have ek : k = (uv v).length := by simpa using e2
  refine ⟨by rw [ek]; exact e3, ek, e5, ?_⟩
  by_cases h10 : k = 10
  · have := e6 h10; simp at this; omega
  · have h1 := uv_val v
    have h2 : 128 ^ (uv v).length ≤ 128 ^ 9 := Nat.pow_le_pow_right (by decide) (by omega)
    omega

/-- A number with sign, as one without. -/
def zz (n : Int) : Nat := if n < 0 then (-(n + 1)).toNat * 2 + 1 else n.toNat * 2
def unzz (m : Nat) : Int := if m % 2 = 1 then -((m / 2 : Nat) : Int) - 1 else ((m / 2 : Nat) : Int)
theorem unzz_zz (n : Int) : unzz (zz n) = n := by
  unfold zz unzz
  by_cases h : n < 0
  · rw [if_pos h, if_pos (by omega)]; omega
  · rw [if_neg h, if_neg (by omega)]; omega
theorem zz_unzz (m : Nat) : zz (unzz m) = m := by
  unfold zz unzz
  by_cases h : m % 2 = 1
  · rw [if_pos h, if_pos (by omega)]; omega
  · rw [if_neg h, if_neg (by omega)]; omega
theorem zz_lt {n : Int} (h1 : -9223372036854775808 ≤ n) (h2 : n ≤ 9223372036854775807) : zz n < 18446744073709551616 := by
  unfold zz
  split <;> omega
theorem unzz_ge {m : Nat} (h : m < 18446744073709551616) : -9223372036854775808 ≤ unzz m ∧ unzz m ≤ 9223372036854775807 := by
  unfold unzz
  split <;> omega

/-- So many bytes of a number, the lowest first; and back. -/
def fx : Nat → Nat → List Nat
  | 0, _ => []
  | k + 1, n => n % 256 :: fx k (n / 256)
def unfx : List Nat → Nat
  | [] => 0
  | c :: r => c + 256 * unfx r
theorem fx_length : ∀ k n, (fx k n).length = k
  | 0, _ => rfl
  | k + 1, n => by simp [fx, fx_length k]
theorem unfx_fx : ∀ k n, unfx (fx k n) = n % 256 ^ k
  | 0, n => by simp [fx, unfx, Nat.mod_one]
  | k + 1, n => by
    rw [fx, unfx, unfx_fx k, Nat.pow_succ, Nat.mul_comm (256 ^ k) 256, Nat.mod_mul]
theorem fx_unfx : ∀ (l : List Nat), (∀ c ∈ l, c < 256) → fx l.length (unfx l) = l
  | [], _ => rfl
  | c :: r, h => by
    have hc := h c (by simp)
    have ih := fx_unfx r (fun c' h' => h c' (List.mem_cons_of_mem _ h'))
    simp only [List.length_cons, fx, unfx]
    rw [show (c + 256 * unfx r) % 256 = c by omega, show (c + 256 * unfx r) / 256 = unfx r by omega, ih]
theorem unfx_lt : ∀ (l : List Nat), (∀ c ∈ l, c < 256) → unfx l < 256 ^ l.length
  | [], _ => by simp [unfx]
  | c :: r, h => by
    have hc := h c (by simp)
    have ih := unfx_lt r (fun c' h' => h c' (List.mem_cons_of_mem _ h'))
    simp only [List.length_cons, unfx]
    rw [Nat.pow_succ]
    omega
end WireMath

