/- relstoreref.Unkey -/
import Derived.Test.YthimnpobcfkghaaKeyG
namespace Go.Proofs.Ythimnpobcfkghaa
open Go.RowKit Go.Lib
attribute [local go_sem ↓] Go.wp_at_zero Go.wp_at_succ
/- is it a beginning? -/
theorem pre_of {s : ByteArray} {p q : Nat} {l : List UInt8} (hp : p ≤ s.size) (h : (ll s).drop p = l ++ (ll s).drop q) (hq : q ≤ s.size) : l.length ≤ (ex s p).size ∧ (ex s p).extract 0 l.length = ⟨l.toArray⟩ ∧ q = p + l.length := by
  have hl := congrArg List.length h
  rw [List.length_append, List.length_drop, List.length_drop, ll_len] at hl
  refine ⟨by rw [ex_size]; omega, ?_, by omega⟩
  apply ll_inj
  rw [ll_extract, ll_ex, h, List.drop_zero, List.take_left]
  rfl
theorem pre_bytes {s : ByteArray} {p : Nat} {l : List UInt8} (h : (ex s p).extract 0 l.length = ⟨l.toArray⟩) : ∃ r, (ll s).drop p = l ++ r := by
  have h1 := congrArg ll h
  rw [ll_extract, ll_ex, List.drop_zero] at h1
  refine ⟨((ll s).drop p).drop l.length, ?_⟩
  have h2 : l = ((ll s).drop p).take l.length := h1.symm
  have h3 := (List.take_append_drop l.length ((ll s).drop p)).symm
  rw [← h2] at h3
  exact h3
theorem pre_one {s : ByteArray} {p : Nat} (hp : p < s.size) (hb : ¬ bytN s p = 1) : ¬ (ex s p).extract 0 1 = ⟨#[1]⟩ := fun h => by
  obtain ⟨r, hr⟩ := pre_bytes (l := [1]) h
  rw [dropE hp] at hr
  injection hr with h1 h2
  have := congrArg UInt8.toNat h1
  rw [UInt8.toNat_ofNat'] at this
  have hl := bytN_lt s p
  simp at this
  omega
theorem pre_text {s : ByteArray} {p : Nat} (hp : p < s.size) (h5 : bytN s p = 5) (hn : kn s p = none) (t : List UInt8) : ¬ (ex s p).extract 0 (5 :: (esc t ++ [0, 1])).length = ⟨(5 :: (esc t ++ [0, 1])).toArray⟩ := fun h => by
  obtain ⟨r, hr⟩ := pre_bytes h
  rw [dropE hp] at hr
  injection hr with h1 h2
  have h3 : (ll s).drop (p + 1) = esc t ++ 0 :: 1 :: r := by rw [h2]; simp
  rw [(kn_text hp h5 h3).1] at hn
  cases hn
/- reading a text loosely -/
def ldT (l : List UInt8) (j : Nat) (bs : List UInt8) : Prop := loose (l.drop 1) = bs ++ loose (l.drop j)
theorem loose_ne {b : UInt8} (h : ¬ b = 0) (c : UInt8) (r : List UInt8) : loose (b :: c :: r) = b :: loose (c :: r) := by
  show (if b = 0 ∧ c = 1 then [] else b :: (if b = 0 then loose r else loose (c :: r))) = _
  rw [if_neg (fun h' => h h'.1), if_neg h]
theorem loose_0 {c : UInt8} (h : ¬ c = 1) (r : List UInt8) : loose (0 :: c :: r) = 0 :: loose r := by
  show (if (0 : UInt8) = 0 ∧ c = 1 then [] else 0 :: (if (0 : UInt8) = 0 then loose r else loose (c :: r))) = _
  rw [if_neg (fun h' => h h'.2), if_pos rfl]
theorem ldT_ne {x : ByteArray} {j : Nat} {bs : List UInt8} (h : ldT (ll x) j bs) (hj : j + 1 < x.size) (hb : ¬ bytN x j = 0) : ldT (ll x) (j + 1) (bs ++ [UInt8.ofNat (bytN x j)]) := by
  unfold ldT at h ⊢
  rw [h, dropE (show j < x.size by omega), dropE hj, loose_ne (fun e => hb ((ofNat_0 (bytN_lt x j)).1 e))]
  simp
theorem ldT_0 {x : ByteArray} {j : Nat} {bs : List UInt8} (h : ldT (ll x) j bs) (hj : j + 1 < x.size) (hb : bytN x j = 0) (hc : ¬ bytN x (j + 1) = 1) : ldT (ll x) (j + 2) (bs ++ [0]) := by
  unfold ldT at h ⊢
  have hl := bytN_lt x (j + 1)
  have e2 : ¬ UInt8.ofNat (bytN x (j + 1)) = 1 := fun e => hc (by have := congrArg UInt8.toNat e; rw [UInt8.toNat_ofNat'] at this; simp at this; omega)
  rw [h, dropE (show j < x.size by omega), dropE hj, hb]
  show bs ++ loose (0 :: _ :: _) = _
  rw [loose_0 e2]
  simp
theorem ldT_stop {x : ByteArray} {j : Nat} {bs : List UInt8} (h : ldT (ll x) j bs) (hj : j + 1 < x.size) (hb : bytN x j = 0) (hc : bytN x (j + 1) = 1) : loose ((ll x).drop 1) = bs := by
  unfold ldT at h
  rw [h, dropE (show j < x.size by omega), dropE hj, hb, hc]
  show bs ++ [] = bs
  rw [List.append_nil]
theorem ldT_out {x : ByteArray} {j : Nat} {bs : List UInt8} (h : ldT (ll x) j bs) (hj : x.size ≤ j + 1) : loose ((ll x).drop 1) = bs := by
  unfold ldT at h
  rw [h]
  by_cases h1 : j < x.size
  · rw [dropE h1, List.drop_of_length_le (by rw [ll_len]; omega)]
    show bs ++ [] = bs
    rw [List.append_nil]
  · rw [List.drop_of_length_le (by rw [ll_len]; omega)]
    show bs ++ [] = bs
    rw [List.append_nil]
theorem kyL_1 (k n : Int) (s : ByteArray) : kyL (fun _ => k) (fun _ => n) (fun _ => s) 1 = kyV k n s := rfl
theorem liesOne (W : World) (k n : Int) (s : ByteArray) : LiesA (W.alloc (.cells #[.int .i64 k, .int .i64 n, .string s] 42)) (some ⟨W.heap.size, 0, none⟩) 1 (fun _ => k) (fun _ => n) (fun _ => s) := by
  refine .inr ⟨W.heap.size, 0, rfl, fun i hi => ?_⟩
  obtain rfl : i = 0 := by omega
  refine ⟨?_, ?_, ?_⟩ <;> go_simp
theorem sub63 (u : Nat) (h : u < 18446744073709551616) : wrap64 (IntKind.u64.wrap ((u : Int) - 9223372036854775808)) = (u : Int) - 9223372036854775808 := by
  unfold wrap64
  rw [IntKind.wrap_u64]; omega
set_option maxRecDepth 20000 in
set_option maxHeartbeats 8000000 in
theorem runkey (s : ByteArray) (w : World) (hs : s.size ≤ 100000000000) :
    Calls Try.prog 8 #[.string s] w fun e w' => ((∃ n v, isKey s n ∧ e = .returned (.tuple #[v, .int .i64 0]) ∧ w'.ownsRow w.heap.size 42 3 v n (cellsF n (yK s) (yN s) (yS s))) ∨ ((¬ ∃ n, isKey s n) ∧ e = .returned (.tuple #[.slice none 0 0, .int .i64 4]))) ∧ Below w.heap.size w w' := by
  obtain ⟨i0, hi, hz0, hz1, hz2⟩ := info_parts infoV
  go_enter Try.func8, Try.ntmps8
  go_wp2_with fail
  go_loopw [0, 4] (fun r v X => ∃ i p : Nat, r = .string (ex s p) ∧ i ≤ p ∧ p ≤ s.size ∧ Hid (kP s i = some p) ∧ Hid (X.ownsRow w.heap.size 42 3 v i (cellsF i (yK s) (yN s) (yS s))) ∧ Hid (Below w.heap.size w X)) (fun r _ _ => strSize r)
  case atStart => exact ⟨0, 0, by rw [ex_0], Nat.le_refl _, Nat.zero_le _, (rfl : kP s 0 = some 0), World.ownsRow_nil _ _ _ _, Below.refl _ _⟩
  case round =>
    obtain ⟨i, p, rfl, hip, hp, HP, HO, HB⟩ := hrel
    by_cases hlt : p < s.size
    · obtain ⟨x, hxe⟩ : ∃ x, x = ex s p := ⟨_, rfl⟩
      rw [← hxe]
      have HXS : Hid (x.size = s.size - p) := (by rw [hxe, ex_size] : x.size = s.size - p)
      have h0 : 0 < x.size := by rw [hxe, ex_size]; omega
      have hE := notEmpty h0
      have h0' : (0 : Int) < (x.size : Int) := by omega
      have hx2 : x.size ≤ 100000000000 := by have := HXS.out; omega
      have g0 := bytN_get h0
      have hb0 : bytN x 0 = bytN s p := by rw [hxe]; exact bytN_ex s p 0
      rw [hb0] at g0
      have HXE : Hid (x = ex s p) := hxe
      have hbl := bytN_lt s p
      have ea := kA_of HP.out
      have EK : Hid (yK s i = wK s p) := (by unfold yK; rw [ea] : yK s i = wK s p)
      have EN : Hid (yN s i = wN s p) := (by unfold yN; rw [ea] : yN s i = wN s p)
      have ES : Hid (yS s i = wS s p) := (by unfold yS; rw [ea] : yS s i = wS s p)
      clear ea hb0 hxe
      by_cases k1 : bytN s p = 1
      · rw [k1] at g0
        have HK1 : Hid ((0 : Int) = yK s i) := (by rw [EK.out]; unfold wK; rw [k1]; rfl : (0 : Int) = yK s i)
        have HN1 : Hid ((0 : Int) = yN s i) := (by rw [EN.out]; unfold wN; rw [k1]; rfl : (0 : Int) = yN s i)
        have HS1 : Hid ((⟨#[]⟩ : ByteArray) = yS s i) := (by rw [ES.out]; unfold wS; rw [k1]; rfl : (⟨#[]⟩ : ByteArray) = yS s i)
        have HC : Hid (cellsF (i + 1) (yK s) (yN s) (yS s) = cellsF i (yK s) (yN s) (yS s) ++ [.int .i64 (0), .int .i64 (0), .string (⟨#[]⟩)]) := (by rw [cellsF_succ]; unfold three; rw [← HK1.out, ← HN1.out, ← HS1.out] : cellsF (i + 1) (yK s) (yN s) (yS s) = cellsF i (yK s) (yN s) (yS s) ++ [.int .i64 (0), .int .i64 (0), .string (⟨#[]⟩)])
        have hkn : kn s p = some (p + 1) := by unfold kn; rw [if_neg (by omega), if_pos (by omega)]
        obtain ⟨hkb, hk1, hk2⟩ := kn_bytes hkn
        have hkv : kyV (wK s p) (wN s p) (wS s p) = kyV (0) (0) (⟨#[]⟩) := by rw [← EK.out, ← EN.out, ← ES.out]; exact (congr (congr (congrArg kyV HK1.out) HN1.out) HS1.out).symm
        rw [hkv] at hkb
        have hpre := pre_of hp hkb hk2
        rw [← HXE.out] at hpre
        have HPre : Hid ((kyV (0) (0) (⟨#[]⟩)).length ≤ x.size ∧ x.extract 0 (kyV (0) (0) (⟨#[]⟩)).length = ⟨(kyV (0) (0) (⟨#[]⟩)).toArray⟩ ∧ 0 < (kyV (0) (0) (⟨#[]⟩)).length) := ⟨hpre.1, hpre.2.1, by omega⟩
        have HS : Hid (kP s (i + 1) = some (p + (kyV (0) (0) (⟨#[]⟩)).length)) := (by rw [kP_succ HP.out, hkn, ← hpre.2.2] : kP s (i + 1) = some (p + (kyV (0) (0) (⟨#[]⟩)).length))
        clear hkn hkb hk1 hk2 hkv hpre
        go_wp2_with fail
        refine (rnull _).mono ?_
        rintro e w1 ⟨rfl, hb1⟩
        have HB1 : Hid (Below w.heap.size w w1) := HB.out.trans (hb1.mono HB.out.size)
        have HO1 : Hid (w1.ownsRow w.heap.size 42 3 u4 i (cellsF i (yK s) (yN s) (yS s))) := row_below HO.out hb1
        have hw1 : w.heap.size ≤ w1.heap.size := HB1.out.size
        clear hb1
        have HOa : Hid ((w1.alloc (.cells #[.int .i64 0, .int .i64 0, .string ⟨#[]⟩] 42)).ownsRow w.heap.size 42 3 u4 i (cellsF i (yK s) (yN s) (yS s))) := World.ownsRow.alloc HO1.out _
        have HBa : Hid (Below w.heap.size w (w1.alloc (.cells #[.int .i64 0, .int .i64 0, .string ⟨#[]⟩] 42))) := HB1.out.alloc hw1 _
        have hwa : w1.heap.size < (w1.alloc (.cells #[.int .i64 0, .int .i64 0, .string ⟨#[]⟩] 42)).heap.size := by simp
        have d0 : (w1.alloc (.cells #[.int .i64 0, .int .i64 0, .string ⟨#[]⟩] 42)).cell? ⟨w1.heap.size, 0, none⟩ = some (.int .i64 0) := by go_simp
        have d1 : (w1.alloc (.cells #[.int .i64 0, .int .i64 0, .string ⟨#[]⟩] 42)).cell? ⟨w1.heap.size, 1, none⟩ = some (.int .i64 0) := by go_simp
        have d2 : (w1.alloc (.cells #[.int .i64 0, .int .i64 0, .string ⟨#[]⟩] 42)).cell? ⟨w1.heap.size, 2, none⟩ = some (.string ⟨#[]⟩) := by go_simp
        go_upto_region 17 with fail
        change Code.wp _ _ _ _ (w1.alloc (.cells #[.int .i64 0, .int .i64 0, .string ⟨#[]⟩] 42))
        generalize (w1.alloc (.cells #[.int .i64 0, .int .i64 0, .string ⟨#[]⟩] 42)) = X at *
        have hwx : w.heap.size ≤ X.heap.size := HBa.out.size
        have hly := liesOne X (0) (0) (⟨#[]⟩)
        have HLY : Hid _ := hly
        clear hly
        go_wp2_with fail
        refine (rkey _ 1 1 (fun _ => 0) (fun _ => 0) (fun _ => ⟨#[]⟩) _ HLY.out ?_).mono ?_
        · show 9 * 1 + 2 * (0 + (⟨#[]⟩ : ByteArray).size) ≤ 1000000000000
          first | (show 9 * 1 + 2 * (0 + 0) ≤ 1000000000000; omega) | omega
        rintro e w3 ⟨rfl, hb3⟩
        rw [kyL_1]
        have e0' := keepCell hb3 (keepSize (((Below.refl _ _).alloc (Nat.le_refl _) _)) hwa) (keepCell (((Below.refl _ _).alloc (Nat.le_refl _) _)) hwa d0)
        have e1' := keepCell hb3 (keepSize (((Below.refl _ _).alloc (Nat.le_refl _) _)) hwa) (keepCell (((Below.refl _ _).alloc (Nat.le_refl _) _)) hwa d1)
        have e2' := keepCell hb3 (keepSize (((Below.refl _ _).alloc (Nat.le_refl _) _)) hwa) (keepCell (((Below.refl _ _).alloc (Nat.le_refl _) _)) hwa d2)
        have HB3 : Hid (Below w.heap.size w w3) := (HBa.out.alloc hwx _).trans (hb3.mono (by simp; omega))
        have HO3 : Hid (w3.ownsRow w.heap.size 42 3 u4 i (cellsF i (yK s) (yN s) (yS s))) := row_below (World.ownsRow.alloc HOa.out _) hb3
        have hw3 : w.heap.size ≤ w3.heap.size := HB3.out.size
        clear hb3 d0 d1 d2 HLY
        obtain ⟨hp1, hp2, hp3⟩ := HPre.out
        generalize kyV (0) (0) (⟨#[]⟩) = kv at *
        have hks : (⟨kv.toArray⟩ : ByteArray).size = kv.length := size_mkN _
        have t1 : ¬ ((x.size : Int) < (kv.length : Int)) := by omega
        have t2 : (kv.length : Int) ≤ (x.size : Int) := by omega
        have hxx : x.extract kv.length x.size = ex s (p + kv.length) := by
          show ex x kv.length = _
          rw [HXE.out, ex_ex]
        have HXX : Hid _ := hxx
        clear hxx
        go_wp2_with (at_builtin; go_must (refine wpList_append_lies _ rfl _ _ _ rfl w.heap.size 42 i0 (.agg #[.int .i64 (0), .int .i64 (0), .string (⟨#[]⟩)]) 3 32 Try.underlying22 hi hz0 hz1 hz2 rfl (by decide) _ i (cellsF i (yK s) (yN s) (yS s)) rfl (World.ownsRow.alloc HO3.out _) _ 1 1 [.int .i64 (0), .int .i64 (0), .string (⟨#[]⟩)] rfl rfl ?g0 ?g00 (by decide) ?g1 ?g2 ?g3 _ rfl ?_))
        case g0 => exact newsV _ _ _ _
        case g00 => simp [Value.oneCell']
        case g1 => unfold maxLen; omega
        case g2 => omega
        case g3 => simp; omega
        intro g' cap2 w4 hown2 hgrow2 hat2 hlt4
        have HB4 : Hid (Below w.heap.size w w4) := below_appV (HB3.out.alloc hw3 _) (World.ownsRow.alloc HO3.out _) (by simp; omega) hgrow2
        have HO4 : Hid (w4.ownsRow w.heap.size 42 3 (.slice (some ⟨g', 0, none⟩) (i + 1) cap2) (i + 1) (cellsF (i + 1) (yK s) (yN s) (yS s))) := by
          show w4.ownsRow w.heap.size 42 3 (.slice (some ⟨g', 0, none⟩) (i + 1) cap2) (i + 1) (cellsF (i + 1) (yK s) (yN s) (yS s))
          rw [HC.out]; exact hown2
        clear hown2 hgrow2 hat2 hlt4
        go_wp2_with fail
        (try simp only [Int.toNat_natCast])
        rw [HXX.out]
        exact ⟨⟨i + 1, p + kv.length, rfl, by omega, by have := HXS.out; omega, HS, HO4, HB4⟩, by rw [strSize_mk, strSize_mk, ex_size]; have := HXS.out; omega⟩
      · by_cases k2 : bytN s p = 2
        · rw [k2] at g0
          have HK1 : Hid ((1 : Int) = yK s i) := (by rw [EK.out]; unfold wK; rw [k2]; rfl : (1 : Int) = yK s i)
          have HN1 : Hid ((bn false : Int) = yN s i) := (by rw [EN.out]; unfold wN; rw [k2]; rfl : (bn false : Int) = yN s i)
          have HS1 : Hid ((⟨#[]⟩ : ByteArray) = yS s i) := (by rw [ES.out]; unfold wS; rw [k2]; rfl : (⟨#[]⟩ : ByteArray) = yS s i)
          have HC : Hid (cellsF (i + 1) (yK s) (yN s) (yS s) = cellsF i (yK s) (yN s) (yS s) ++ [.int .i64 (1), .int .i64 (bn false), .string (⟨#[]⟩)]) := (by rw [cellsF_succ]; unfold three; rw [← HK1.out, ← HN1.out, ← HS1.out] : cellsF (i + 1) (yK s) (yN s) (yS s) = cellsF i (yK s) (yN s) (yS s) ++ [.int .i64 (1), .int .i64 (bn false), .string (⟨#[]⟩)])
          have hkn : kn s p = some (p + 1) := by unfold kn; rw [if_neg (by omega), if_pos (by omega)]
          obtain ⟨hkb, hk1, hk2⟩ := kn_bytes hkn
          have hkv : kyV (wK s p) (wN s p) (wS s p) = kyV (1) (bn false) (⟨#[]⟩) := by rw [← EK.out, ← EN.out, ← ES.out]; exact (congr (congr (congrArg kyV HK1.out) HN1.out) HS1.out).symm
          rw [hkv] at hkb
          have hpre := pre_of hp hkb hk2
          rw [← HXE.out] at hpre
          have HPre : Hid ((kyV (1) (bn false) (⟨#[]⟩)).length ≤ x.size ∧ x.extract 0 (kyV (1) (bn false) (⟨#[]⟩)).length = ⟨(kyV (1) (bn false) (⟨#[]⟩)).toArray⟩ ∧ 0 < (kyV (1) (bn false) (⟨#[]⟩)).length) := ⟨hpre.1, hpre.2.1, by omega⟩
          have HS : Hid (kP s (i + 1) = some (p + (kyV (1) (bn false) (⟨#[]⟩)).length)) := (by rw [kP_succ HP.out, hkn, ← hpre.2.2] : kP s (i + 1) = some (p + (kyV (1) (bn false) (⟨#[]⟩)).length))
          clear hkn hkb hk1 hk2 hkv hpre
          go_wp2_with fail
          refine (rnull _).mono ?_
          rintro e w1 ⟨rfl, hb1⟩
          have HB1 : Hid (Below w.heap.size w w1) := HB.out.trans (hb1.mono HB.out.size)
          have HO1 : Hid (w1.ownsRow w.heap.size 42 3 u4 i (cellsF i (yK s) (yN s) (yS s))) := row_below HO.out hb1
          have hw1 : w.heap.size ≤ w1.heap.size := HB1.out.size
          clear hb1
          go_wp2_with fail
          refine (rtruth false _).mono ?_
          rintro e w2 ⟨rfl, hb2⟩
          obtain ⟨hc2, hf2⟩ := bcell hb2
          have r0 : w2.cell? ⟨w1.heap.size, 0, none⟩ = some (.int .i64 0) := by rw [hc2 _ _ (by simp)]; go_simp
          have r1 : w2.cell? ⟨w1.heap.size, 1, none⟩ = some (.int .i64 0) := by rw [hc2 _ _ (by simp)]; go_simp
          have r2 : w2.cell? ⟨w1.heap.size, 2, none⟩ = some (.string ⟨#[]⟩) := by rw [hc2 _ _ (by simp)]; go_simp
          have f0 : w2.frozen? ⟨w1.heap.size, 0, none⟩ = false := by rw [hf2 _ _ (by simp)]; go_simp
          have f1 : w2.frozen? ⟨w1.heap.size, 1, none⟩ = false := by rw [hf2 _ _ (by simp)]; go_simp
          have f2 : w2.frozen? ⟨w1.heap.size, 2, none⟩ = false := by rw [hf2 _ _ (by simp)]; go_simp
          have z2 : w1.heap.size + 1 ≤ w2.heap.size := by have := hb2.size; simpa using this
          have HB2a : Hid (Below w.heap.size w w2) := (HB1.out.alloc hw1 _).trans (hb2.mono (by simp; omega))
          have HOa : Hid ((put3 w2 w1.heap.size (.int .i64 (1)) (.int .i64 (bn false)) (.string (⟨#[]⟩))).ownsRow w.heap.size 42 3 u4 i (cellsF i (yK s) (yN s) (yS s))) := row_put3 (row_below (World.ownsRow.alloc HO1.out _) hb2) (row_new HO1.out (Nat.le_refl _))
          have HBa : Hid (Below w.heap.size w (put3 w2 w1.heap.size (.int .i64 (1)) (.int .i64 (bn false)) (.string (⟨#[]⟩)))) := put3_below HB2a.out hw1 _ _ _
          have hwa : w1.heap.size < (put3 w2 w1.heap.size (.int .i64 (1)) (.int .i64 (bn false)) (.string (⟨#[]⟩))).heap.size := by rw [put3_size]; omega
          obtain ⟨d0, d1, d2⟩ := put3_at r0 r1 r2 (.int .i64 (1)) (.int .i64 (bn false)) (.string (⟨#[]⟩))
          clear hc2 hf2 hb2
          go_upto_region 17 with fail
          change Code.wp _ _ _ _ (put3 w2 w1.heap.size (.int .i64 (1)) (.int .i64 (bn false)) (.string (⟨#[]⟩)))
          generalize (put3 w2 w1.heap.size (.int .i64 (1)) (.int .i64 (bn false)) (.string (⟨#[]⟩))) = X at *
          have hwx : w.heap.size ≤ X.heap.size := HBa.out.size
          have hly := liesOne X (1) (bn false) (⟨#[]⟩)
          have HLY : Hid _ := hly
          clear hly
          go_wp2_with fail
          refine (rkey _ 1 1 (fun _ => 1) (fun _ => bn false) (fun _ => ⟨#[]⟩) _ HLY.out ?_).mono ?_
          · show 9 * 1 + 2 * (0 + (⟨#[]⟩ : ByteArray).size) ≤ 1000000000000
            first | (show 9 * 1 + 2 * (0 + 0) ≤ 1000000000000; omega) | omega
          rintro e w3 ⟨rfl, hb3⟩
          rw [kyL_1]
          have e0' := keepCell hb3 (keepSize (((Below.refl _ _).alloc (Nat.le_refl _) _)) hwa) (keepCell (((Below.refl _ _).alloc (Nat.le_refl _) _)) hwa d0)
          have e1' := keepCell hb3 (keepSize (((Below.refl _ _).alloc (Nat.le_refl _) _)) hwa) (keepCell (((Below.refl _ _).alloc (Nat.le_refl _) _)) hwa d1)
          have e2' := keepCell hb3 (keepSize (((Below.refl _ _).alloc (Nat.le_refl _) _)) hwa) (keepCell (((Below.refl _ _).alloc (Nat.le_refl _) _)) hwa d2)
          have HB3 : Hid (Below w.heap.size w w3) := (HBa.out.alloc hwx _).trans (hb3.mono (by simp; omega))
          have HO3 : Hid (w3.ownsRow w.heap.size 42 3 u4 i (cellsF i (yK s) (yN s) (yS s))) := row_below (World.ownsRow.alloc HOa.out _) hb3
          have hw3 : w.heap.size ≤ w3.heap.size := HB3.out.size
          clear hb3 d0 d1 d2 HLY
          obtain ⟨hp1, hp2, hp3⟩ := HPre.out
          generalize kyV (1) (bn false) (⟨#[]⟩) = kv at *
          have hks : (⟨kv.toArray⟩ : ByteArray).size = kv.length := size_mkN _
          have t1 : ¬ ((x.size : Int) < (kv.length : Int)) := by omega
          have t2 : (kv.length : Int) ≤ (x.size : Int) := by omega
          have hxx : x.extract kv.length x.size = ex s (p + kv.length) := by
            show ex x kv.length = _
            rw [HXE.out, ex_ex]
          have HXX : Hid _ := hxx
          clear hxx
          go_wp2_with (at_builtin; go_must (refine wpList_append_lies _ rfl _ _ _ rfl w.heap.size 42 i0 (.agg #[.int .i64 (0), .int .i64 (0), .string (⟨#[]⟩)]) 3 32 Try.underlying22 hi hz0 hz1 hz2 rfl (by decide) _ i (cellsF i (yK s) (yN s) (yS s)) rfl (World.ownsRow.alloc HO3.out _) _ 1 1 [.int .i64 (1), .int .i64 (bn false), .string (⟨#[]⟩)] rfl rfl ?g0 ?g00 (by decide) ?g1 ?g2 ?g3 _ rfl ?_))
          case g0 => exact newsV _ _ _ _
          case g00 => simp [Value.oneCell']
          case g1 => unfold maxLen; omega
          case g2 => omega
          case g3 => simp; omega
          intro g' cap2 w4 hown2 hgrow2 hat2 hlt4
          have HB4 : Hid (Below w.heap.size w w4) := below_appV (HB3.out.alloc hw3 _) (World.ownsRow.alloc HO3.out _) (by simp; omega) hgrow2
          have HO4 : Hid (w4.ownsRow w.heap.size 42 3 (.slice (some ⟨g', 0, none⟩) (i + 1) cap2) (i + 1) (cellsF (i + 1) (yK s) (yN s) (yS s))) := by
            show w4.ownsRow w.heap.size 42 3 (.slice (some ⟨g', 0, none⟩) (i + 1) cap2) (i + 1) (cellsF (i + 1) (yK s) (yN s) (yS s))
            rw [HC.out]; exact hown2
          clear hown2 hgrow2 hat2 hlt4
          go_wp2_with fail
          (try simp only [Int.toNat_natCast])
          rw [HXX.out]
          exact ⟨⟨i + 1, p + kv.length, rfl, by omega, by have := HXS.out; omega, HS, HO4, HB4⟩, by rw [strSize_mk, strSize_mk, ex_size]; have := HXS.out; omega⟩
        · by_cases k3 : bytN s p = 3
          · rw [k3] at g0
            have HK1 : Hid ((1 : Int) = yK s i) := (by rw [EK.out]; unfold wK; rw [k3]; rfl : (1 : Int) = yK s i)
            have HN1 : Hid ((bn true : Int) = yN s i) := (by rw [EN.out]; unfold wN; rw [k3]; rfl : (bn true : Int) = yN s i)
            have HS1 : Hid ((⟨#[]⟩ : ByteArray) = yS s i) := (by rw [ES.out]; unfold wS; rw [k3]; rfl : (⟨#[]⟩ : ByteArray) = yS s i)
            have HC : Hid (cellsF (i + 1) (yK s) (yN s) (yS s) = cellsF i (yK s) (yN s) (yS s) ++ [.int .i64 (1), .int .i64 (bn true), .string (⟨#[]⟩)]) := (by rw [cellsF_succ]; unfold three; rw [← HK1.out, ← HN1.out, ← HS1.out] : cellsF (i + 1) (yK s) (yN s) (yS s) = cellsF i (yK s) (yN s) (yS s) ++ [.int .i64 (1), .int .i64 (bn true), .string (⟨#[]⟩)])
            have hkn : kn s p = some (p + 1) := by unfold kn; rw [if_neg (by omega), if_pos (by omega)]
            obtain ⟨hkb, hk1, hk2⟩ := kn_bytes hkn
            have hkv : kyV (wK s p) (wN s p) (wS s p) = kyV (1) (bn true) (⟨#[]⟩) := by rw [← EK.out, ← EN.out, ← ES.out]; exact (congr (congr (congrArg kyV HK1.out) HN1.out) HS1.out).symm
            rw [hkv] at hkb
            have hpre := pre_of hp hkb hk2
            rw [← HXE.out] at hpre
            have HPre : Hid ((kyV (1) (bn true) (⟨#[]⟩)).length ≤ x.size ∧ x.extract 0 (kyV (1) (bn true) (⟨#[]⟩)).length = ⟨(kyV (1) (bn true) (⟨#[]⟩)).toArray⟩ ∧ 0 < (kyV (1) (bn true) (⟨#[]⟩)).length) := ⟨hpre.1, hpre.2.1, by omega⟩
            have HS : Hid (kP s (i + 1) = some (p + (kyV (1) (bn true) (⟨#[]⟩)).length)) := (by rw [kP_succ HP.out, hkn, ← hpre.2.2] : kP s (i + 1) = some (p + (kyV (1) (bn true) (⟨#[]⟩)).length))
            clear hkn hkb hk1 hk2 hkv hpre
            go_wp2_with fail
            refine (rnull _).mono ?_
            rintro e w1 ⟨rfl, hb1⟩
            have HB1 : Hid (Below w.heap.size w w1) := HB.out.trans (hb1.mono HB.out.size)
            have HO1 : Hid (w1.ownsRow w.heap.size 42 3 u4 i (cellsF i (yK s) (yN s) (yS s))) := row_below HO.out hb1
            have hw1 : w.heap.size ≤ w1.heap.size := HB1.out.size
            clear hb1
            go_wp2_with fail
            refine (rtruth true _).mono ?_
            rintro e w2 ⟨rfl, hb2⟩
            obtain ⟨hc2, hf2⟩ := bcell hb2
            have r0 : w2.cell? ⟨w1.heap.size, 0, none⟩ = some (.int .i64 0) := by rw [hc2 _ _ (by simp)]; go_simp
            have r1 : w2.cell? ⟨w1.heap.size, 1, none⟩ = some (.int .i64 0) := by rw [hc2 _ _ (by simp)]; go_simp
            have r2 : w2.cell? ⟨w1.heap.size, 2, none⟩ = some (.string ⟨#[]⟩) := by rw [hc2 _ _ (by simp)]; go_simp
            have f0 : w2.frozen? ⟨w1.heap.size, 0, none⟩ = false := by rw [hf2 _ _ (by simp)]; go_simp
            have f1 : w2.frozen? ⟨w1.heap.size, 1, none⟩ = false := by rw [hf2 _ _ (by simp)]; go_simp
            have f2 : w2.frozen? ⟨w1.heap.size, 2, none⟩ = false := by rw [hf2 _ _ (by simp)]; go_simp
            have z2 : w1.heap.size + 1 ≤ w2.heap.size := by have := hb2.size; simpa using this
            have HB2a : Hid (Below w.heap.size w w2) := (HB1.out.alloc hw1 _).trans (hb2.mono (by simp; omega))
            have HOa : Hid ((put3 w2 w1.heap.size (.int .i64 (1)) (.int .i64 (bn true)) (.string (⟨#[]⟩))).ownsRow w.heap.size 42 3 u4 i (cellsF i (yK s) (yN s) (yS s))) := row_put3 (row_below (World.ownsRow.alloc HO1.out _) hb2) (row_new HO1.out (Nat.le_refl _))
            have HBa : Hid (Below w.heap.size w (put3 w2 w1.heap.size (.int .i64 (1)) (.int .i64 (bn true)) (.string (⟨#[]⟩)))) := put3_below HB2a.out hw1 _ _ _
            have hwa : w1.heap.size < (put3 w2 w1.heap.size (.int .i64 (1)) (.int .i64 (bn true)) (.string (⟨#[]⟩))).heap.size := by rw [put3_size]; omega
            obtain ⟨d0, d1, d2⟩ := put3_at r0 r1 r2 (.int .i64 (1)) (.int .i64 (bn true)) (.string (⟨#[]⟩))
            clear hc2 hf2 hb2
            go_upto_region 17 with fail
            change Code.wp _ _ _ _ (put3 w2 w1.heap.size (.int .i64 (1)) (.int .i64 (bn true)) (.string (⟨#[]⟩)))
            generalize (put3 w2 w1.heap.size (.int .i64 (1)) (.int .i64 (bn true)) (.string (⟨#[]⟩))) = X at *
            have hwx : w.heap.size ≤ X.heap.size := HBa.out.size
            have hly := liesOne X (1) (bn true) (⟨#[]⟩)
            have HLY : Hid _ := hly
            clear hly
            go_wp2_with fail
            refine (rkey _ 1 1 (fun _ => 1) (fun _ => bn true) (fun _ => ⟨#[]⟩) _ HLY.out ?_).mono ?_
            · show 9 * 1 + 2 * (0 + (⟨#[]⟩ : ByteArray).size) ≤ 1000000000000
              first | (show 9 * 1 + 2 * (0 + 0) ≤ 1000000000000; omega) | omega
            rintro e w3 ⟨rfl, hb3⟩
            rw [kyL_1]
            have e0' := keepCell hb3 (keepSize (((Below.refl _ _).alloc (Nat.le_refl _) _)) hwa) (keepCell (((Below.refl _ _).alloc (Nat.le_refl _) _)) hwa d0)
            have e1' := keepCell hb3 (keepSize (((Below.refl _ _).alloc (Nat.le_refl _) _)) hwa) (keepCell (((Below.refl _ _).alloc (Nat.le_refl _) _)) hwa d1)
            have e2' := keepCell hb3 (keepSize (((Below.refl _ _).alloc (Nat.le_refl _) _)) hwa) (keepCell (((Below.refl _ _).alloc (Nat.le_refl _) _)) hwa d2)
            have HB3 : Hid (Below w.heap.size w w3) := (HBa.out.alloc hwx _).trans (hb3.mono (by simp; omega))
            have HO3 : Hid (w3.ownsRow w.heap.size 42 3 u4 i (cellsF i (yK s) (yN s) (yS s))) := row_below (World.ownsRow.alloc HOa.out _) hb3
            have hw3 : w.heap.size ≤ w3.heap.size := HB3.out.size
            clear hb3 d0 d1 d2 HLY
            obtain ⟨hp1, hp2, hp3⟩ := HPre.out
            generalize kyV (1) (bn true) (⟨#[]⟩) = kv at *
            have hks : (⟨kv.toArray⟩ : ByteArray).size = kv.length := size_mkN _
            have t1 : ¬ ((x.size : Int) < (kv.length : Int)) := by omega
            have t2 : (kv.length : Int) ≤ (x.size : Int) := by omega
            have hxx : x.extract kv.length x.size = ex s (p + kv.length) := by
              show ex x kv.length = _
              rw [HXE.out, ex_ex]
            have HXX : Hid _ := hxx
            clear hxx
            go_wp2_with (at_builtin; go_must (refine wpList_append_lies _ rfl _ _ _ rfl w.heap.size 42 i0 (.agg #[.int .i64 (0), .int .i64 (0), .string (⟨#[]⟩)]) 3 32 Try.underlying22 hi hz0 hz1 hz2 rfl (by decide) _ i (cellsF i (yK s) (yN s) (yS s)) rfl (World.ownsRow.alloc HO3.out _) _ 1 1 [.int .i64 (1), .int .i64 (bn true), .string (⟨#[]⟩)] rfl rfl ?g0 ?g00 (by decide) ?g1 ?g2 ?g3 _ rfl ?_))
            case g0 => exact newsV _ _ _ _
            case g00 => simp [Value.oneCell']
            case g1 => unfold maxLen; omega
            case g2 => omega
            case g3 => simp; omega
            intro g' cap2 w4 hown2 hgrow2 hat2 hlt4
            have HB4 : Hid (Below w.heap.size w w4) := below_appV (HB3.out.alloc hw3 _) (World.ownsRow.alloc HO3.out _) (by simp; omega) hgrow2
            have HO4 : Hid (w4.ownsRow w.heap.size 42 3 (.slice (some ⟨g', 0, none⟩) (i + 1) cap2) (i + 1) (cellsF (i + 1) (yK s) (yN s) (yS s))) := by
              show w4.ownsRow w.heap.size 42 3 (.slice (some ⟨g', 0, none⟩) (i + 1) cap2) (i + 1) (cellsF (i + 1) (yK s) (yN s) (yS s))
              rw [HC.out]; exact hown2
            clear hown2 hgrow2 hat2 hlt4
            go_wp2_with fail
            (try simp only [Int.toNat_natCast])
            rw [HXX.out]
            exact ⟨⟨i + 1, p + kv.length, rfl, by omega, by have := HXS.out; omega, HS, HO4, HB4⟩, by rw [strSize_mk, strSize_mk, ex_size]; have := HXS.out; omega⟩
          · by_cases k4 : bytN s p = 4 ∧ p + 9 ≤ s.size
            · obtain ⟨k4, h9⟩ := k4
              rw [k4] at g0
              have h9' : (9 : Int) ≤ (x.size : Int) := by have := HXS.out; omega
              have HK1 : Hid ((2 : Int) = yK s i) := (by rw [EK.out]; unfold wK; rw [k4]; rfl : (2 : Int) = yK s i)
              have HN1 : Hid (((ubN (ex s (p + 1)) 8 : Int) - 9223372036854775808 : Int) = yN s i) := (by rw [EN.out]; unfold wN; rw [k4]; rfl : ((ubN (ex s (p + 1)) 8 : Int) - 9223372036854775808 : Int) = yN s i)
              have HS1 : Hid ((⟨#[]⟩ : ByteArray) = yS s i) := (by rw [ES.out]; unfold wS; rw [k4]; rfl : (⟨#[]⟩ : ByteArray) = yS s i)
              have HC : Hid (cellsF (i + 1) (yK s) (yN s) (yS s) = cellsF i (yK s) (yN s) (yS s) ++ [.int .i64 (2), .int .i64 ((ubN (ex s (p + 1)) 8 : Int) - 9223372036854775808), .string (⟨#[]⟩)]) := (by rw [cellsF_succ]; unfold three; rw [← HK1.out, ← HN1.out, ← HS1.out] : cellsF (i + 1) (yK s) (yN s) (yS s) = cellsF i (yK s) (yN s) (yS s) ++ [.int .i64 (2), .int .i64 ((ubN (ex s (p + 1)) 8 : Int) - 9223372036854775808), .string (⟨#[]⟩)])
              have hkn : kn s p = some (p + 9) := by unfold kn; rw [if_neg (by omega), if_neg (by omega), if_pos k4, if_pos h9]
              obtain ⟨hkb, hk1, hk2⟩ := kn_bytes hkn
              have hkv : kyV (wK s p) (wN s p) (wS s p) = kyV (2) ((ubN (ex s (p + 1)) 8 : Int) - 9223372036854775808) (⟨#[]⟩) := by rw [← EK.out, ← EN.out, ← ES.out]; exact (congr (congr (congrArg kyV HK1.out) HN1.out) HS1.out).symm
              rw [hkv] at hkb
              have hpre := pre_of hp hkb hk2
              rw [← HXE.out] at hpre
              have HPre : Hid ((kyV (2) ((ubN (ex s (p + 1)) 8 : Int) - 9223372036854775808) (⟨#[]⟩)).length ≤ x.size ∧ x.extract 0 (kyV (2) ((ubN (ex s (p + 1)) 8 : Int) - 9223372036854775808) (⟨#[]⟩)).length = ⟨(kyV (2) ((ubN (ex s (p + 1)) 8 : Int) - 9223372036854775808) (⟨#[]⟩)).toArray⟩ ∧ 0 < (kyV (2) ((ubN (ex s (p + 1)) 8 : Int) - 9223372036854775808) (⟨#[]⟩)).length) := ⟨hpre.1, hpre.2.1, by omega⟩
              have HS : Hid (kP s (i + 1) = some (p + (kyV (2) ((ubN (ex s (p + 1)) 8 : Int) - 9223372036854775808) (⟨#[]⟩)).length)) := (by rw [kP_succ HP.out, hkn, ← hpre.2.2] : kP s (i + 1) = some (p + (kyV (2) ((ubN (ex s (p + 1)) 8 : Int) - 9223372036854775808) (⟨#[]⟩)).length))
              clear hkn hkb hk1 hk2 hkv hpre
              have htz : (x.extract 1 9).size = 8 := by rw [ByteArray.size_extract]; have := HXS.out; omega
              have hu8 : ubN (x.extract 1 9) 8 = ubN (ex s (p + 1)) 8 := ubN_ext 8 fun j hj => by rw [bytN_extract _ (by omega), HXE.out, bytN_ex, bytN_ex]; congr 1; omega
              have HU : Hid (wrap64 (IntKind.u64.wrap ((ubN (x.extract 1 9) 8 : Int) - 9223372036854775808)) = (ubN (ex s (p + 1)) 8 : Int) - 9223372036854775808) := (by rw [hu8]; exact sub63 _ (ubN_8 _) : wrap64 (IntKind.u64.wrap ((ubN (x.extract 1 9) 8 : Int) - 9223372036854775808)) = (ubN (ex s (p + 1)) 8 : Int) - 9223372036854775808)
              have HTZ : Hid _ := htz
              clear htz hu8
              generalize (ubN (ex s (p + 1)) 8 : Int) - 9223372036854775808 = nn at *
              go_wp2_with fail
              refine (rnull _).mono ?_
              rintro e w1 ⟨rfl, hb1⟩
              have HB1 : Hid (Below w.heap.size w w1) := HB.out.trans (hb1.mono HB.out.size)
              have HO1 : Hid (w1.ownsRow w.heap.size 42 3 u4 i (cellsF i (yK s) (yN s) (yS s))) := row_below HO.out hb1
              have hw1 : w.heap.size ≤ w1.heap.size := HB1.out.size
              clear hb1
              go_wp2_with fail
              refine (runbytesN _ _ ?_).mono ?_
              · rw [HTZ.out]; omega
              rintro e w1' ⟨rfl, rfl⟩
              rw [HTZ.out]
              go_wp2_with fail
              rw [HU.out]
              refine (rnum _ _).mono ?_
              rintro e w2 ⟨rfl, hb2⟩
              obtain ⟨hc2, hf2⟩ := bcell hb2
              have r0 : w2.cell? ⟨w1.heap.size, 0, none⟩ = some (.int .i64 0) := by rw [hc2 _ _ (by simp)]; go_simp
              have r1 : w2.cell? ⟨w1.heap.size, 1, none⟩ = some (.int .i64 0) := by rw [hc2 _ _ (by simp)]; go_simp
              have r2 : w2.cell? ⟨w1.heap.size, 2, none⟩ = some (.string ⟨#[]⟩) := by rw [hc2 _ _ (by simp)]; go_simp
              have f0 : w2.frozen? ⟨w1.heap.size, 0, none⟩ = false := by rw [hf2 _ _ (by simp)]; go_simp
              have f1 : w2.frozen? ⟨w1.heap.size, 1, none⟩ = false := by rw [hf2 _ _ (by simp)]; go_simp
              have f2 : w2.frozen? ⟨w1.heap.size, 2, none⟩ = false := by rw [hf2 _ _ (by simp)]; go_simp
              have z2 : w1.heap.size + 1 ≤ w2.heap.size := by have := hb2.size; simpa using this
              have HB2a : Hid (Below w.heap.size w w2) := (HB1.out.alloc hw1 _).trans (hb2.mono (by simp; omega))
              have HOa : Hid ((put3 w2 w1.heap.size (.int .i64 (2)) (.int .i64 (nn)) (.string (⟨#[]⟩))).ownsRow w.heap.size 42 3 u4 i (cellsF i (yK s) (yN s) (yS s))) := row_put3 (row_below (World.ownsRow.alloc HO1.out _) hb2) (row_new HO1.out (Nat.le_refl _))
              have HBa : Hid (Below w.heap.size w (put3 w2 w1.heap.size (.int .i64 (2)) (.int .i64 (nn)) (.string (⟨#[]⟩)))) := put3_below HB2a.out hw1 _ _ _
              have hwa : w1.heap.size < (put3 w2 w1.heap.size (.int .i64 (2)) (.int .i64 (nn)) (.string (⟨#[]⟩))).heap.size := by rw [put3_size]; omega
              obtain ⟨d0, d1, d2⟩ := put3_at r0 r1 r2 (.int .i64 (2)) (.int .i64 (nn)) (.string (⟨#[]⟩))
              clear hc2 hf2 hb2
              go_upto_region 17 with fail
              change Code.wp _ _ _ _ (put3 w2 w1.heap.size (.int .i64 (2)) (.int .i64 (nn)) (.string (⟨#[]⟩)))
              generalize (put3 w2 w1.heap.size (.int .i64 (2)) (.int .i64 (nn)) (.string (⟨#[]⟩))) = X at *
              have hwx : w.heap.size ≤ X.heap.size := HBa.out.size
              have hly := liesOne X (2) (nn) (⟨#[]⟩)
              have HLY : Hid _ := hly
              clear hly
              go_wp2_with fail
              refine (rkey _ 1 1 (fun _ => 2) (fun _ => nn) (fun _ => ⟨#[]⟩) _ HLY.out ?_).mono ?_
              · show 9 * 1 + 2 * (0 + (⟨#[]⟩ : ByteArray).size) ≤ 1000000000000
                first | (show 9 * 1 + 2 * (0 + 0) ≤ 1000000000000; omega) | omega
              rintro e w3 ⟨rfl, hb3⟩
              rw [kyL_1]
              have e0' := keepCell hb3 (keepSize (((Below.refl _ _).alloc (Nat.le_refl _) _)) hwa) (keepCell (((Below.refl _ _).alloc (Nat.le_refl _) _)) hwa d0)
              have e1' := keepCell hb3 (keepSize (((Below.refl _ _).alloc (Nat.le_refl _) _)) hwa) (keepCell (((Below.refl _ _).alloc (Nat.le_refl _) _)) hwa d1)
              have e2' := keepCell hb3 (keepSize (((Below.refl _ _).alloc (Nat.le_refl _) _)) hwa) (keepCell (((Below.refl _ _).alloc (Nat.le_refl _) _)) hwa d2)
              have HB3 : Hid (Below w.heap.size w w3) := (HBa.out.alloc hwx _).trans (hb3.mono (by simp; omega))
              have HO3 : Hid (w3.ownsRow w.heap.size 42 3 u4 i (cellsF i (yK s) (yN s) (yS s))) := row_below (World.ownsRow.alloc HOa.out _) hb3
              have hw3 : w.heap.size ≤ w3.heap.size := HB3.out.size
              clear hb3 d0 d1 d2 HLY
              obtain ⟨hp1, hp2, hp3⟩ := HPre.out
              generalize kyV (2) (nn) (⟨#[]⟩) = kv at *
              have hks : (⟨kv.toArray⟩ : ByteArray).size = kv.length := size_mkN _
              have t1 : ¬ ((x.size : Int) < (kv.length : Int)) := by omega
              have t2 : (kv.length : Int) ≤ (x.size : Int) := by omega
              have hxx : x.extract kv.length x.size = ex s (p + kv.length) := by
                show ex x kv.length = _
                rw [HXE.out, ex_ex]
              have HXX : Hid _ := hxx
              clear hxx
              go_wp2_with (at_builtin; go_must (refine wpList_append_lies _ rfl _ _ _ rfl w.heap.size 42 i0 (.agg #[.int .i64 (0), .int .i64 (0), .string (⟨#[]⟩)]) 3 32 Try.underlying22 hi hz0 hz1 hz2 rfl (by decide) _ i (cellsF i (yK s) (yN s) (yS s)) rfl (World.ownsRow.alloc HO3.out _) _ 1 1 [.int .i64 (2), .int .i64 (nn), .string (⟨#[]⟩)] rfl rfl ?g0 ?g00 (by decide) ?g1 ?g2 ?g3 _ rfl ?_))
              case g0 => exact newsV _ _ _ _
              case g00 => simp [Value.oneCell']
              case g1 => unfold maxLen; omega
              case g2 => omega
              case g3 => simp; omega
              intro g' cap2 w4 hown2 hgrow2 hat2 hlt4
              have HB4 : Hid (Below w.heap.size w w4) := below_appV (HB3.out.alloc hw3 _) (World.ownsRow.alloc HO3.out _) (by simp; omega) hgrow2
              have HO4 : Hid (w4.ownsRow w.heap.size 42 3 (.slice (some ⟨g', 0, none⟩) (i + 1) cap2) (i + 1) (cellsF (i + 1) (yK s) (yN s) (yS s))) := by
                show w4.ownsRow w.heap.size 42 3 (.slice (some ⟨g', 0, none⟩) (i + 1) cap2) (i + 1) (cellsF (i + 1) (yK s) (yN s) (yS s))
                rw [HC.out]; exact hown2
              clear hown2 hgrow2 hat2 hlt4
              go_wp2_with fail
              (try simp only [Int.toNat_natCast])
              rw [HXX.out]
              exact ⟨⟨i + 1, p + kv.length, rfl, by omega, by have := HXS.out; omega, HS, HO4, HB4⟩, by rw [strSize_mk, strSize_mk, ex_size]; have := HXS.out; omega⟩
            · by_cases k5 : bytN s p = 5
              · rw [k5] at g0
                have hlim : x.size ≤ 100000000000 := hx2
                go_wp2_with fail
                refine (rnull _).mono ?_
                rintro e w1 ⟨rfl, hb1⟩
                have HB1 : Hid (Below w.heap.size w w1) := HB.out.trans (hb1.mono HB.out.size)
                have HO1 : Hid (w1.ownsRow w.heap.size 42 3 u4 i (cellsF i (yK s) (yN s) (yS s))) := row_below HO.out hb1
                have hw1 : w.heap.size ≤ w1.heap.size := HB1.out.size
                clear hb1
                go_wp2_with fail
                go_loop [6, 7] (fun v y => ∃ (j : Nat) (bs : List UInt8), v = .string ⟨bs.toArray⟩ ∧ y = .int .i64 j ∧ 1 ≤ j ∧ j ≤ x.size ∧ bs.length ≤ j ∧ Hid (ldT (ll x) j bs)) (fun _ y => x.size - (intOf y).toNat)
                case atStart => exact ⟨1, [], rfl, rfl, Nat.le_refl _, by omega, Nat.zero_le _, (rfl : ldT (ll x) 1 [])⟩
                case round =>
                  obtain ⟨j, bs, rfl, rfl, hj1, hj2, hbl2, HL⟩ := hrel
                  have hsb : (⟨bs.toArray⟩ : ByteArray).size = bs.length := size_mkN _
                  by_cases hjs : j + 1 < x.size
                  · have m0 : (0 : Int) ≤ (j : Int) := by omega
                    have m1 : (j : Int) < (x.size : Int) := by omega
                    have m2 : (j : Int) + 1 < (x.size : Int) := by omega
                    have m3 : (0 : Int) ≤ (j : Int) + 1 := by omega
                    have m4 : (j : Int) + 1 ≤ (x.size : Int) := by omega
                    have hj3 : j < x.size := by omega
                    have ga := bytN_get hj3
                    have gc := bytN_get hjs
                    have gal := bytN_lt x j
                    have gcl := bytN_lt x (j + 1)
                    have hob := one_byte x j hj3
                    by_cases hb : bytN x j = 0
                    · rw [hb] at ga hob
                      by_cases hc : bytN x (j + 1) = 1
                      · rw [hc] at gc
                        have hlo : loose ((ll x).drop 1) = bs := ldT_stop HL.out hjs hb hc
                        rw [HXE.out, ll_ex, List.drop_drop] at hlo
                        have hbs : bs.length ≤ 100000000000 := by omega
                        clear hbl2 HL
                        go_wp2_with fail
                        refine (rstr _ _).mono ?_
                        rintro e w2 ⟨rfl, hb2⟩
                        obtain ⟨hc2, hf2⟩ := bcell hb2
                        have r0 : w2.cell? ⟨w1.heap.size, 0, none⟩ = some (.int .i64 0) := by rw [hc2 _ _ (by simp)]; go_simp
                        have r1 : w2.cell? ⟨w1.heap.size, 1, none⟩ = some (.int .i64 0) := by rw [hc2 _ _ (by simp)]; go_simp
                        have r2 : w2.cell? ⟨w1.heap.size, 2, none⟩ = some (.string ⟨#[]⟩) := by rw [hc2 _ _ (by simp)]; go_simp
                        have f0 : w2.frozen? ⟨w1.heap.size, 0, none⟩ = false := by rw [hf2 _ _ (by simp)]; go_simp
                        have f1 : w2.frozen? ⟨w1.heap.size, 1, none⟩ = false := by rw [hf2 _ _ (by simp)]; go_simp
                        have f2 : w2.frozen? ⟨w1.heap.size, 2, none⟩ = false := by rw [hf2 _ _ (by simp)]; go_simp
                        have z2 : w1.heap.size + 1 ≤ w2.heap.size := by have := hb2.size; simpa using this
                        have HB2a : Hid (Below w.heap.size w w2) := (HB1.out.alloc hw1 _).trans (hb2.mono (by simp; omega))
                        have HOa : Hid ((put3 w2 w1.heap.size (.int .i64 (3)) (.int .i64 (0)) (.string (⟨bs.toArray⟩))).ownsRow w.heap.size 42 3 u4 i (cellsF i (yK s) (yN s) (yS s))) := row_put3 (row_below (World.ownsRow.alloc HO1.out _) hb2) (row_new HO1.out (Nat.le_refl _))
                        have HBa : Hid (Below w.heap.size w (put3 w2 w1.heap.size (.int .i64 (3)) (.int .i64 (0)) (.string (⟨bs.toArray⟩)))) := put3_below HB2a.out hw1 _ _ _
                        have hwa : w1.heap.size < (put3 w2 w1.heap.size (.int .i64 (3)) (.int .i64 (0)) (.string (⟨bs.toArray⟩))).heap.size := by rw [put3_size]; omega
                        obtain ⟨d0, d1, d2⟩ := put3_at r0 r1 r2 (.int .i64 (3)) (.int .i64 (0)) (.string (⟨bs.toArray⟩))
                        clear hc2 hf2 hb2
                        cases hkn0 : kn s p with
                        | some q0 =>
                          cases hu : unesc ((ll s).drop (p + 1)) with
                          | none =>
                            exfalso
                            unfold kn at hkn0
                            rw [if_neg (by omega), if_neg (by omega), if_neg (by omega), if_pos k5, hu] at hkn0
                            cases hkn0
                          | some tr =>
                            obtain ⟨t0, r0'⟩ := tr
                            obtain ⟨hk9, hws9, hlo9⟩ := kn_text hlt k5 (unesc_some _ _ _ hu)
                            have hbt : bs = t0 := by rw [← hlo]; exact hlo9.symm
                            subst hbt
                            have HK1 : Hid ((3 : Int) = yK s i) := (by rw [EK.out]; unfold wK; rw [k5]; rfl : (3 : Int) = yK s i)
                            have HN1 : Hid ((0 : Int) = yN s i) := (by rw [EN.out]; unfold wN; rw [k5]; rfl : (0 : Int) = yN s i)
                            have HS1 : Hid ((⟨bs.toArray⟩ : ByteArray) = yS s i) := (by rw [ES.out, hws9] : (⟨bs.toArray⟩ : ByteArray) = yS s i)
                            have HC : Hid (cellsF (i + 1) (yK s) (yN s) (yS s) = cellsF i (yK s) (yN s) (yS s) ++ [.int .i64 (3), .int .i64 (0), .string (⟨bs.toArray⟩)]) := (by rw [cellsF_succ]; unfold three; rw [← HK1.out, ← HN1.out, ← HS1.out] : cellsF (i + 1) (yK s) (yN s) (yS s) = cellsF i (yK s) (yN s) (yS s) ++ [.int .i64 (3), .int .i64 (0), .string (⟨bs.toArray⟩)])
                            have hkn : kn s p = some (p + (esc bs).length + 3) := by exact hk9
                            obtain ⟨hkb, hk1, hk2⟩ := kn_bytes hkn
                            have hkv : kyV (wK s p) (wN s p) (wS s p) = kyV (3) (0) (⟨bs.toArray⟩) := by rw [← EK.out, ← EN.out, ← ES.out]; exact (congr (congr (congrArg kyV HK1.out) HN1.out) HS1.out).symm
                            rw [hkv] at hkb
                            have hpre := pre_of hp hkb hk2
                            rw [← HXE.out] at hpre
                            have HPre : Hid ((kyV (3) (0) (⟨bs.toArray⟩)).length ≤ x.size ∧ x.extract 0 (kyV (3) (0) (⟨bs.toArray⟩)).length = ⟨(kyV (3) (0) (⟨bs.toArray⟩)).toArray⟩ ∧ 0 < (kyV (3) (0) (⟨bs.toArray⟩)).length) := ⟨hpre.1, hpre.2.1, by omega⟩
                            have HS : Hid (kP s (i + 1) = some (p + (kyV (3) (0) (⟨bs.toArray⟩)).length)) := (by rw [kP_succ HP.out, hkn, ← hpre.2.2] : kP s (i + 1) = some (p + (kyV (3) (0) (⟨bs.toArray⟩)).length))
                            clear hkn hkb hk1 hk2 hkv hpre
                            clear hkn0 hu hk9 hws9 hlo9 hlo
                            go_upto_region 17 with fail
                            change Code.wp _ _ _ _ (put3 w2 w1.heap.size (.int .i64 (3)) (.int .i64 (0)) (.string (⟨bs.toArray⟩)))
                            generalize (put3 w2 w1.heap.size (.int .i64 (3)) (.int .i64 (0)) (.string (⟨bs.toArray⟩))) = X at *
                            have hwx : w.heap.size ≤ X.heap.size := HBa.out.size
                            have hly := liesOne X (3) (0) (⟨bs.toArray⟩)
                            have HLY : Hid _ := hly
                            clear hly
                            go_wp2_with fail
                            refine (rkey _ 1 1 (fun _ => 3) (fun _ => 0) (fun _ => ⟨bs.toArray⟩) _ HLY.out ?_).mono ?_
                            · show 9 * 1 + 2 * (0 + (⟨bs.toArray⟩ : ByteArray).size) ≤ 1000000000000
                              first | (show 9 * 1 + 2 * (0 + 0) ≤ 1000000000000; omega) | omega
                            rintro e w3 ⟨rfl, hb3⟩
                            rw [kyL_1]
                            have e0' := keepCell hb3 (keepSize (((Below.refl _ _).alloc (Nat.le_refl _) _)) hwa) (keepCell (((Below.refl _ _).alloc (Nat.le_refl _) _)) hwa d0)
                            have e1' := keepCell hb3 (keepSize (((Below.refl _ _).alloc (Nat.le_refl _) _)) hwa) (keepCell (((Below.refl _ _).alloc (Nat.le_refl _) _)) hwa d1)
                            have e2' := keepCell hb3 (keepSize (((Below.refl _ _).alloc (Nat.le_refl _) _)) hwa) (keepCell (((Below.refl _ _).alloc (Nat.le_refl _) _)) hwa d2)
                            have HB3 : Hid (Below w.heap.size w w3) := (HBa.out.alloc hwx _).trans (hb3.mono (by simp; omega))
                            have HO3 : Hid (w3.ownsRow w.heap.size 42 3 u4 i (cellsF i (yK s) (yN s) (yS s))) := row_below (World.ownsRow.alloc HOa.out _) hb3
                            have hw3 : w.heap.size ≤ w3.heap.size := HB3.out.size
                            clear hb3 d0 d1 d2 HLY
                            obtain ⟨hp1, hp2, hp3⟩ := HPre.out
                            generalize kyV (3) (0) (⟨bs.toArray⟩) = kv at *
                            have hks : (⟨kv.toArray⟩ : ByteArray).size = kv.length := size_mkN _
                            have t1 : ¬ ((x.size : Int) < (kv.length : Int)) := by omega
                            have t2 : (kv.length : Int) ≤ (x.size : Int) := by omega
                            have hxx : x.extract kv.length x.size = ex s (p + kv.length) := by
                              show ex x kv.length = _
                              rw [HXE.out, ex_ex]
                            have HXX : Hid _ := hxx
                            clear hxx
                            go_wp2_with (at_builtin; go_must (refine wpList_append_lies _ rfl _ _ _ rfl w.heap.size 42 i0 (.agg #[.int .i64 (0), .int .i64 (0), .string (⟨#[]⟩)]) 3 32 Try.underlying22 hi hz0 hz1 hz2 rfl (by decide) _ i (cellsF i (yK s) (yN s) (yS s)) rfl (World.ownsRow.alloc HO3.out _) _ 1 1 [.int .i64 (3), .int .i64 (0), .string (⟨bs.toArray⟩)] rfl rfl ?g0 ?g00 (by decide) ?g1 ?g2 ?g3 _ rfl ?_))
                            case g0 => exact newsV _ _ _ _
                            case g00 => simp [Value.oneCell']
                            case g1 => unfold maxLen; omega
                            case g2 => omega
                            case g3 => simp; omega
                            intro g' cap2 w4 hown2 hgrow2 hat2 hlt4
                            have HB4 : Hid (Below w.heap.size w w4) := below_appV (HB3.out.alloc hw3 _) (World.ownsRow.alloc HO3.out _) (by simp; omega) hgrow2
                            have HO4 : Hid (w4.ownsRow w.heap.size 42 3 (.slice (some ⟨g', 0, none⟩) (i + 1) cap2) (i + 1) (cellsF (i + 1) (yK s) (yN s) (yS s))) := by
                              show w4.ownsRow w.heap.size 42 3 (.slice (some ⟨g', 0, none⟩) (i + 1) cap2) (i + 1) (cellsF (i + 1) (yK s) (yN s) (yS s))
                              rw [HC.out]; exact hown2
                            clear hown2 hgrow2 hat2 hlt4
                            go_wp2_with fail
                            (try simp only [Int.toNat_natCast])
                            rw [HXX.out]
                            exact ⟨⟨i + 1, p + kv.length, rfl, by omega, by have := HXS.out; omega, HS, HO4, HB4⟩, by rw [strSize_mk, strSize_mk, ex_size]; have := HXS.out; omega⟩
                        | none =>
                          have HPre : Hid (¬ x.extract 0 (kyV 3 0 ⟨bs.toArray⟩).length = ⟨(kyV 3 0 ⟨bs.toArray⟩).toArray⟩) := (by rw [HXE.out]; exact pre_text hlt k5 hkn0 bs : ¬ x.extract 0 (kyV 3 0 ⟨bs.toArray⟩).length = ⟨(kyV 3 0 ⟨bs.toArray⟩).toArray⟩)
                          have HN : Hid (¬ ∃ n, isKey s n) := notKey HP.out hlt hkn0
                          clear hkn0 hlo
                          go_upto_region 17 with fail
                          change Code.wp _ _ _ _ (put3 w2 w1.heap.size (.int .i64 (3)) (.int .i64 (0)) (.string (⟨bs.toArray⟩)))
                          generalize (put3 w2 w1.heap.size (.int .i64 (3)) (.int .i64 (0)) (.string (⟨bs.toArray⟩))) = X at *
                          have hwx : w.heap.size ≤ X.heap.size := HBa.out.size
                          have hly := liesOne X (3) (0) (⟨bs.toArray⟩)
                          have HLY : Hid _ := hly
                          clear hly
                          go_wp2_with fail
                          refine (rkey _ 1 1 (fun _ => 3) (fun _ => 0) (fun _ => ⟨bs.toArray⟩) _ HLY.out ?_).mono ?_
                          · show 9 * 1 + 2 * (0 + (⟨bs.toArray⟩ : ByteArray).size) ≤ 1000000000000
                            first | (show 9 * 1 + 2 * (0 + 0) ≤ 1000000000000; omega) | omega
                          rintro e w3 ⟨rfl, hb3⟩
                          rw [kyL_1]
                          have e0' := keepCell hb3 (keepSize (((Below.refl _ _).alloc (Nat.le_refl _) _)) hwa) (keepCell (((Below.refl _ _).alloc (Nat.le_refl _) _)) hwa d0)
                          have e1' := keepCell hb3 (keepSize (((Below.refl _ _).alloc (Nat.le_refl _) _)) hwa) (keepCell (((Below.refl _ _).alloc (Nat.le_refl _) _)) hwa d1)
                          have e2' := keepCell hb3 (keepSize (((Below.refl _ _).alloc (Nat.le_refl _) _)) hwa) (keepCell (((Below.refl _ _).alloc (Nat.le_refl _) _)) hwa d2)
                          have HB3 : Hid (Below w.heap.size w w3) := (HBa.out.alloc hwx _).trans (hb3.mono (by simp; omega))
                          have HO3 : Hid (w3.ownsRow w.heap.size 42 3 u4 i (cellsF i (yK s) (yN s) (yS s))) := row_below (World.ownsRow.alloc HOa.out _) hb3
                          have hw3 : w.heap.size ≤ w3.heap.size := HB3.out.size
                          clear hb3 d0 d1 d2 HLY
                          generalize kyV (3) (0) (⟨bs.toArray⟩) = kv at *
                          have hks : (⟨kv.toArray⟩ : ByteArray).size = kv.length := size_mkN _
                          have hpp := HPre.out
                          generalize (⟨kv.toArray⟩ : ByteArray) = T at *
                          generalize kv.length = m at *
                          by_cases hlen : m ≤ x.size
                          · have t1 : ¬ ((x.size : Int) < (m : Int)) := by omega
                            have t2 : (m : Int) ≤ (x.size : Int) := by omega
                            have t3 := str_neN hpp
                            clear hpp
                            go_wp2_with fail
                            go_ret2
                            exact ⟨.inr ⟨HN.out, rfl⟩, HB3.out⟩
                          · have t1 : (x.size : Int) < (m : Int) := by omega
                            clear hpp
                            go_wp2_with fail
                            go_ret2
                            exact ⟨.inr ⟨HN.out, rfl⟩, HB3.out⟩
                      · have HL2 : Hid (ldT (ll x) (j + 2) (bs ++ [0])) := ldT_0 HL.out hjs hb hc
                        generalize bytN x (j + 1) = c at *
                        have hc' : ¬ ((c : Int) = 1) := by omega
                        have hc2 : ((c : Int) == 1) = false := by simpa using hc'
                        go_wp2_with fail
                        go_round
                        case rel => exact ⟨j + 2, bs ++ [0], congrArg Value.string (mk_app1 bs 0), by go_num, by omega, by omega, by simp; omega, HL2⟩
                        case measure => simp [intOf]; omega
                    · have HL2 : Hid (ldT (ll x) (j + 1) (bs ++ [UInt8.ofNat (bytN x j)])) := ldT_ne HL.out hjs hb
                      generalize bytN x j = b at *
                      have hb' : ¬ ((b : Int) = 0) := by omega
                      have hb2 : ((b : Int) == 0) = false := by simpa using hb'
                      go_wp2_with fail
                      go_round
                      case rel => exact ⟨j + 1, bs ++ [UInt8.ofNat b], congrArg Value.string (mk_app1 bs _), by go_num, by omega, by omega, by simp; omega, HL2⟩
                      case measure => simp [intOf]; omega
                  · have m2 : ¬ ((j : Int) + 1 < (x.size : Int)) := by omega
                    have hlo : loose ((ll x).drop 1) = bs := ldT_out HL.out (by omega)
                    rw [HXE.out, ll_ex, List.drop_drop] at hlo
                    have hbs : bs.length ≤ 100000000000 := by omega
                    clear hbl2 HL
                    go_wp2_with fail
                    refine (rstr _ _).mono ?_
                    rintro e w2 ⟨rfl, hb2⟩
                    obtain ⟨hc2, hf2⟩ := bcell hb2
                    have r0 : w2.cell? ⟨w1.heap.size, 0, none⟩ = some (.int .i64 0) := by rw [hc2 _ _ (by simp)]; go_simp
                    have r1 : w2.cell? ⟨w1.heap.size, 1, none⟩ = some (.int .i64 0) := by rw [hc2 _ _ (by simp)]; go_simp
                    have r2 : w2.cell? ⟨w1.heap.size, 2, none⟩ = some (.string ⟨#[]⟩) := by rw [hc2 _ _ (by simp)]; go_simp
                    have f0 : w2.frozen? ⟨w1.heap.size, 0, none⟩ = false := by rw [hf2 _ _ (by simp)]; go_simp
                    have f1 : w2.frozen? ⟨w1.heap.size, 1, none⟩ = false := by rw [hf2 _ _ (by simp)]; go_simp
                    have f2 : w2.frozen? ⟨w1.heap.size, 2, none⟩ = false := by rw [hf2 _ _ (by simp)]; go_simp
                    have z2 : w1.heap.size + 1 ≤ w2.heap.size := by have := hb2.size; simpa using this
                    have HB2a : Hid (Below w.heap.size w w2) := (HB1.out.alloc hw1 _).trans (hb2.mono (by simp; omega))
                    have HOa : Hid ((put3 w2 w1.heap.size (.int .i64 (3)) (.int .i64 (0)) (.string (⟨bs.toArray⟩))).ownsRow w.heap.size 42 3 u4 i (cellsF i (yK s) (yN s) (yS s))) := row_put3 (row_below (World.ownsRow.alloc HO1.out _) hb2) (row_new HO1.out (Nat.le_refl _))
                    have HBa : Hid (Below w.heap.size w (put3 w2 w1.heap.size (.int .i64 (3)) (.int .i64 (0)) (.string (⟨bs.toArray⟩)))) := put3_below HB2a.out hw1 _ _ _
                    have hwa : w1.heap.size < (put3 w2 w1.heap.size (.int .i64 (3)) (.int .i64 (0)) (.string (⟨bs.toArray⟩))).heap.size := by rw [put3_size]; omega
                    obtain ⟨d0, d1, d2⟩ := put3_at r0 r1 r2 (.int .i64 (3)) (.int .i64 (0)) (.string (⟨bs.toArray⟩))
                    clear hc2 hf2 hb2
                    cases hkn0 : kn s p with
                    | some q0 =>
                      cases hu : unesc ((ll s).drop (p + 1)) with
                      | none =>
                        exfalso
                        unfold kn at hkn0
                        rw [if_neg (by omega), if_neg (by omega), if_neg (by omega), if_pos k5, hu] at hkn0
                        cases hkn0
                      | some tr =>
                        obtain ⟨t0, r0'⟩ := tr
                        obtain ⟨hk9, hws9, hlo9⟩ := kn_text hlt k5 (unesc_some _ _ _ hu)
                        have hbt : bs = t0 := by rw [← hlo]; exact hlo9.symm
                        subst hbt
                        have HK1 : Hid ((3 : Int) = yK s i) := (by rw [EK.out]; unfold wK; rw [k5]; rfl : (3 : Int) = yK s i)
                        have HN1 : Hid ((0 : Int) = yN s i) := (by rw [EN.out]; unfold wN; rw [k5]; rfl : (0 : Int) = yN s i)
                        have HS1 : Hid ((⟨bs.toArray⟩ : ByteArray) = yS s i) := (by rw [ES.out, hws9] : (⟨bs.toArray⟩ : ByteArray) = yS s i)
                        have HC : Hid (cellsF (i + 1) (yK s) (yN s) (yS s) = cellsF i (yK s) (yN s) (yS s) ++ [.int .i64 (3), .int .i64 (0), .string (⟨bs.toArray⟩)]) := (by rw [cellsF_succ]; unfold three; rw [← HK1.out, ← HN1.out, ← HS1.out] : cellsF (i + 1) (yK s) (yN s) (yS s) = cellsF i (yK s) (yN s) (yS s) ++ [.int .i64 (3), .int .i64 (0), .string (⟨bs.toArray⟩)])
                        have hkn : kn s p = some (p + (esc bs).length + 3) := by exact hk9
                        obtain ⟨hkb, hk1, hk2⟩ := kn_bytes hkn
                        have hkv : kyV (wK s p) (wN s p) (wS s p) = kyV (3) (0) (⟨bs.toArray⟩) := by rw [← EK.out, ← EN.out, ← ES.out]; exact (congr (congr (congrArg kyV HK1.out) HN1.out) HS1.out).symm
                        rw [hkv] at hkb
                        have hpre := pre_of hp hkb hk2
                        rw [← HXE.out] at hpre
                        have HPre : Hid ((kyV (3) (0) (⟨bs.toArray⟩)).length ≤ x.size ∧ x.extract 0 (kyV (3) (0) (⟨bs.toArray⟩)).length = ⟨(kyV (3) (0) (⟨bs.toArray⟩)).toArray⟩ ∧ 0 < (kyV (3) (0) (⟨bs.toArray⟩)).length) := ⟨hpre.1, hpre.2.1, by omega⟩
                        have HS : Hid (kP s (i + 1) = some (p + (kyV (3) (0) (⟨bs.toArray⟩)).length)) := (by rw [kP_succ HP.out, hkn, ← hpre.2.2] : kP s (i + 1) = some (p + (kyV (3) (0) (⟨bs.toArray⟩)).length))
                        clear hkn hkb hk1 hk2 hkv hpre
                        clear hkn0 hu hk9 hws9 hlo9 hlo
                        go_upto_region 17 with fail
                        change Code.wp _ _ _ _ (put3 w2 w1.heap.size (.int .i64 (3)) (.int .i64 (0)) (.string (⟨bs.toArray⟩)))
                        generalize (put3 w2 w1.heap.size (.int .i64 (3)) (.int .i64 (0)) (.string (⟨bs.toArray⟩))) = X at *
                        have hwx : w.heap.size ≤ X.heap.size := HBa.out.size
                        have hly := liesOne X (3) (0) (⟨bs.toArray⟩)
                        have HLY : Hid _ := hly
                        clear hly
                        go_wp2_with fail
                        refine (rkey _ 1 1 (fun _ => 3) (fun _ => 0) (fun _ => ⟨bs.toArray⟩) _ HLY.out ?_).mono ?_
                        · show 9 * 1 + 2 * (0 + (⟨bs.toArray⟩ : ByteArray).size) ≤ 1000000000000
                          first | (show 9 * 1 + 2 * (0 + 0) ≤ 1000000000000; omega) | omega
                        rintro e w3 ⟨rfl, hb3⟩
                        rw [kyL_1]
                        have e0' := keepCell hb3 (keepSize (((Below.refl _ _).alloc (Nat.le_refl _) _)) hwa) (keepCell (((Below.refl _ _).alloc (Nat.le_refl _) _)) hwa d0)
                        have e1' := keepCell hb3 (keepSize (((Below.refl _ _).alloc (Nat.le_refl _) _)) hwa) (keepCell (((Below.refl _ _).alloc (Nat.le_refl _) _)) hwa d1)
                        have e2' := keepCell hb3 (keepSize (((Below.refl _ _).alloc (Nat.le_refl _) _)) hwa) (keepCell (((Below.refl _ _).alloc (Nat.le_refl _) _)) hwa d2)
                        have HB3 : Hid (Below w.heap.size w w3) := (HBa.out.alloc hwx _).trans (hb3.mono (by simp; omega))
                        have HO3 : Hid (w3.ownsRow w.heap.size 42 3 u4 i (cellsF i (yK s) (yN s) (yS s))) := row_below (World.ownsRow.alloc HOa.out _) hb3
                        have hw3 : w.heap.size ≤ w3.heap.size := HB3.out.size
                        clear hb3 d0 d1 d2 HLY
                        obtain ⟨hp1, hp2, hp3⟩ := HPre.out
                        generalize kyV (3) (0) (⟨bs.toArray⟩) = kv at *
                        have hks : (⟨kv.toArray⟩ : ByteArray).size = kv.length := size_mkN _
                        have t1 : ¬ ((x.size : Int) < (kv.length : Int)) := by omega
                        have t2 : (kv.length : Int) ≤ (x.size : Int) := by omega
                        have hxx : x.extract kv.length x.size = ex s (p + kv.length) := by
                          show ex x kv.length = _
                          rw [HXE.out, ex_ex]
                        have HXX : Hid _ := hxx
                        clear hxx
                        go_wp2_with (at_builtin; go_must (refine wpList_append_lies _ rfl _ _ _ rfl w.heap.size 42 i0 (.agg #[.int .i64 (0), .int .i64 (0), .string (⟨#[]⟩)]) 3 32 Try.underlying22 hi hz0 hz1 hz2 rfl (by decide) _ i (cellsF i (yK s) (yN s) (yS s)) rfl (World.ownsRow.alloc HO3.out _) _ 1 1 [.int .i64 (3), .int .i64 (0), .string (⟨bs.toArray⟩)] rfl rfl ?g0 ?g00 (by decide) ?g1 ?g2 ?g3 _ rfl ?_))
                        case g0 => exact newsV _ _ _ _
                        case g00 => simp [Value.oneCell']
                        case g1 => unfold maxLen; omega
                        case g2 => omega
                        case g3 => simp; omega
                        intro g' cap2 w4 hown2 hgrow2 hat2 hlt4
                        have HB4 : Hid (Below w.heap.size w w4) := below_appV (HB3.out.alloc hw3 _) (World.ownsRow.alloc HO3.out _) (by simp; omega) hgrow2
                        have HO4 : Hid (w4.ownsRow w.heap.size 42 3 (.slice (some ⟨g', 0, none⟩) (i + 1) cap2) (i + 1) (cellsF (i + 1) (yK s) (yN s) (yS s))) := by
                          show w4.ownsRow w.heap.size 42 3 (.slice (some ⟨g', 0, none⟩) (i + 1) cap2) (i + 1) (cellsF (i + 1) (yK s) (yN s) (yS s))
                          rw [HC.out]; exact hown2
                        clear hown2 hgrow2 hat2 hlt4
                        go_wp2_with fail
                        (try simp only [Int.toNat_natCast])
                        rw [HXX.out]
                        exact ⟨⟨i + 1, p + kv.length, rfl, by omega, by have := HXS.out; omega, HS, HO4, HB4⟩, by rw [strSize_mk, strSize_mk, ex_size]; have := HXS.out; omega⟩
                    | none =>
                      have HPre : Hid (¬ x.extract 0 (kyV 3 0 ⟨bs.toArray⟩).length = ⟨(kyV 3 0 ⟨bs.toArray⟩).toArray⟩) := (by rw [HXE.out]; exact pre_text hlt k5 hkn0 bs : ¬ x.extract 0 (kyV 3 0 ⟨bs.toArray⟩).length = ⟨(kyV 3 0 ⟨bs.toArray⟩).toArray⟩)
                      have HN : Hid (¬ ∃ n, isKey s n) := notKey HP.out hlt hkn0
                      clear hkn0 hlo
                      go_upto_region 17 with fail
                      change Code.wp _ _ _ _ (put3 w2 w1.heap.size (.int .i64 (3)) (.int .i64 (0)) (.string (⟨bs.toArray⟩)))
                      generalize (put3 w2 w1.heap.size (.int .i64 (3)) (.int .i64 (0)) (.string (⟨bs.toArray⟩))) = X at *
                      have hwx : w.heap.size ≤ X.heap.size := HBa.out.size
                      have hly := liesOne X (3) (0) (⟨bs.toArray⟩)
                      have HLY : Hid _ := hly
                      clear hly
                      go_wp2_with fail
                      refine (rkey _ 1 1 (fun _ => 3) (fun _ => 0) (fun _ => ⟨bs.toArray⟩) _ HLY.out ?_).mono ?_
                      · show 9 * 1 + 2 * (0 + (⟨bs.toArray⟩ : ByteArray).size) ≤ 1000000000000
                        first | (show 9 * 1 + 2 * (0 + 0) ≤ 1000000000000; omega) | omega
                      rintro e w3 ⟨rfl, hb3⟩
                      rw [kyL_1]
                      have e0' := keepCell hb3 (keepSize (((Below.refl _ _).alloc (Nat.le_refl _) _)) hwa) (keepCell (((Below.refl _ _).alloc (Nat.le_refl _) _)) hwa d0)
                      have e1' := keepCell hb3 (keepSize (((Below.refl _ _).alloc (Nat.le_refl _) _)) hwa) (keepCell (((Below.refl _ _).alloc (Nat.le_refl _) _)) hwa d1)
                      have e2' := keepCell hb3 (keepSize (((Below.refl _ _).alloc (Nat.le_refl _) _)) hwa) (keepCell (((Below.refl _ _).alloc (Nat.le_refl _) _)) hwa d2)
                      have HB3 : Hid (Below w.heap.size w w3) := (HBa.out.alloc hwx _).trans (hb3.mono (by simp; omega))
                      have HO3 : Hid (w3.ownsRow w.heap.size 42 3 u4 i (cellsF i (yK s) (yN s) (yS s))) := row_below (World.ownsRow.alloc HOa.out _) hb3
                      have hw3 : w.heap.size ≤ w3.heap.size := HB3.out.size
                      clear hb3 d0 d1 d2 HLY
                      generalize kyV (3) (0) (⟨bs.toArray⟩) = kv at *
                      have hks : (⟨kv.toArray⟩ : ByteArray).size = kv.length := size_mkN _
                      have hpp := HPre.out
                      generalize (⟨kv.toArray⟩ : ByteArray) = T at *
                      generalize kv.length = m at *
                      by_cases hlen : m ≤ x.size
                      · have t1 : ¬ ((x.size : Int) < (m : Int)) := by omega
                        have t2 : (m : Int) ≤ (x.size : Int) := by omega
                        have t3 := str_neN hpp
                        clear hpp
                        go_wp2_with fail
                        go_ret2
                        exact ⟨.inr ⟨HN.out, rfl⟩, HB3.out⟩
                      · have t1 : (x.size : Int) < (m : Int) := by omega
                        clear hpp
                        go_wp2_with fail
                        go_ret2
                        exact ⟨.inr ⟨HN.out, rfl⟩, HB3.out⟩
              · have hkn : kn s p = none := by
                  unfold kn
                  by_cases k4' : bytN s p = 4
                  · rw [if_neg (by omega), if_neg (by omega), if_pos k4', if_neg (fun h => k4 ⟨k4', h⟩)]
                  · rw [if_neg (by omega)]
                    by_cases k0 : bytN s p = 0
                    · rw [if_neg (by omega), if_neg k4', if_neg k5]
                    · rw [if_neg (by omega), if_neg k4', if_neg k5]
                have HPre : Hid (¬ x.extract 0 (kyV 0 0 ⟨#[]⟩).length = ⟨(kyV 0 0 ⟨#[]⟩).toArray⟩) := (by rw [HXE.out]; exact pre_one hlt k1 : ¬ x.extract 0 (kyV 0 0 ⟨#[]⟩).length = ⟨(kyV 0 0 ⟨#[]⟩).toArray⟩)
                have HN : Hid (¬ ∃ n, isKey s n) := notKey HP.out hlt hkn
                clear hkn
                have h9 : bytN s p = 4 → x.size < 9 := fun h => by have := HXS.out; have : ¬ p + 9 ≤ s.size := (fun h' => k4 ⟨h, h'⟩); omega
                have H9 : Hid _ := h9
                clear h9 k4
                generalize bytN s p = b at *
                have q2 : ¬ ((b : Int) = 2) := by omega
                have q3 : ¬ ((b : Int) = 3) := by omega
                have q5 : ¬ ((b : Int) = 5) := by omega
                have r2 : ((b : Int) == 2) = false := by simpa using q2
                have r3 : ((b : Int) == 3) = false := by simpa using q3
                have r5 : ((b : Int) == 5) = false := by simpa using q5
                by_cases k4 : b = 4
                · have q4 : ¬ ((9 : Int) ≤ (x.size : Int)) := by have := H9.out k4; omega
                  subst k4
                  go_wp2_with fail
                  refine (rnull _).mono ?_
                  rintro e w1 ⟨rfl, hb1⟩
                  have HB1 : Hid (Below w.heap.size w w1) := HB.out.trans (hb1.mono HB.out.size)
                  have HO1 : Hid (w1.ownsRow w.heap.size 42 3 u4 i (cellsF i (yK s) (yN s) (yS s))) := row_below HO.out hb1
                  have hw1 : w.heap.size ≤ w1.heap.size := HB1.out.size
                  clear hb1
                  have HOa : Hid ((w1.alloc (.cells #[.int .i64 0, .int .i64 0, .string ⟨#[]⟩] 42)).ownsRow w.heap.size 42 3 u4 i (cellsF i (yK s) (yN s) (yS s))) := World.ownsRow.alloc HO1.out _
                  have HBa : Hid (Below w.heap.size w (w1.alloc (.cells #[.int .i64 0, .int .i64 0, .string ⟨#[]⟩] 42))) := HB1.out.alloc hw1 _
                  have hwa : w1.heap.size < (w1.alloc (.cells #[.int .i64 0, .int .i64 0, .string ⟨#[]⟩] 42)).heap.size := by simp
                  have d0 : (w1.alloc (.cells #[.int .i64 0, .int .i64 0, .string ⟨#[]⟩] 42)).cell? ⟨w1.heap.size, 0, none⟩ = some (.int .i64 0) := by go_simp
                  have d1 : (w1.alloc (.cells #[.int .i64 0, .int .i64 0, .string ⟨#[]⟩] 42)).cell? ⟨w1.heap.size, 1, none⟩ = some (.int .i64 0) := by go_simp
                  have d2 : (w1.alloc (.cells #[.int .i64 0, .int .i64 0, .string ⟨#[]⟩] 42)).cell? ⟨w1.heap.size, 2, none⟩ = some (.string ⟨#[]⟩) := by go_simp
                  go_upto_region 17 with fail
                  change Code.wp _ _ _ _ (w1.alloc (.cells #[.int .i64 0, .int .i64 0, .string ⟨#[]⟩] 42))
                  generalize (w1.alloc (.cells #[.int .i64 0, .int .i64 0, .string ⟨#[]⟩] 42)) = X at *
                  have hwx : w.heap.size ≤ X.heap.size := HBa.out.size
                  have hly := liesOne X (0) (0) (⟨#[]⟩)
                  have HLY : Hid _ := hly
                  clear hly
                  go_wp2_with fail
                  refine (rkey _ 1 1 (fun _ => 0) (fun _ => 0) (fun _ => ⟨#[]⟩) _ HLY.out ?_).mono ?_
                  · show 9 * 1 + 2 * (0 + (⟨#[]⟩ : ByteArray).size) ≤ 1000000000000
                    first | (show 9 * 1 + 2 * (0 + 0) ≤ 1000000000000; omega) | omega
                  rintro e w3 ⟨rfl, hb3⟩
                  rw [kyL_1]
                  have e0' := keepCell hb3 (keepSize (((Below.refl _ _).alloc (Nat.le_refl _) _)) hwa) (keepCell (((Below.refl _ _).alloc (Nat.le_refl _) _)) hwa d0)
                  have e1' := keepCell hb3 (keepSize (((Below.refl _ _).alloc (Nat.le_refl _) _)) hwa) (keepCell (((Below.refl _ _).alloc (Nat.le_refl _) _)) hwa d1)
                  have e2' := keepCell hb3 (keepSize (((Below.refl _ _).alloc (Nat.le_refl _) _)) hwa) (keepCell (((Below.refl _ _).alloc (Nat.le_refl _) _)) hwa d2)
                  have HB3 : Hid (Below w.heap.size w w3) := (HBa.out.alloc hwx _).trans (hb3.mono (by simp; omega))
                  have HO3 : Hid (w3.ownsRow w.heap.size 42 3 u4 i (cellsF i (yK s) (yN s) (yS s))) := row_below (World.ownsRow.alloc HOa.out _) hb3
                  have hw3 : w.heap.size ≤ w3.heap.size := HB3.out.size
                  clear hb3 d0 d1 d2 HLY
                  generalize kyV (0) (0) (⟨#[]⟩) = kv at *
                  have hks : (⟨kv.toArray⟩ : ByteArray).size = kv.length := size_mkN _
                  have hpp := HPre.out
                  generalize (⟨kv.toArray⟩ : ByteArray) = T at *
                  generalize kv.length = m at *
                  by_cases hlen : m ≤ x.size
                  · have t1 : ¬ ((x.size : Int) < (m : Int)) := by omega
                    have t2 : (m : Int) ≤ (x.size : Int) := by omega
                    have t3 := str_neN hpp
                    clear hpp
                    go_wp2_with fail
                    go_ret2
                    exact ⟨.inr ⟨HN.out, rfl⟩, HB3.out⟩
                  · have t1 : (x.size : Int) < (m : Int) := by omega
                    clear hpp
                    go_wp2_with fail
                    go_ret2
                    exact ⟨.inr ⟨HN.out, rfl⟩, HB3.out⟩
                · have q4 : ¬ ((b : Int) = 4) := by omega
                  have r4 : ((b : Int) == 4) = false := by simpa using q4
                  go_wp2_with fail
                  refine (rnull _).mono ?_
                  rintro e w1 ⟨rfl, hb1⟩
                  have HB1 : Hid (Below w.heap.size w w1) := HB.out.trans (hb1.mono HB.out.size)
                  have HO1 : Hid (w1.ownsRow w.heap.size 42 3 u4 i (cellsF i (yK s) (yN s) (yS s))) := row_below HO.out hb1
                  have hw1 : w.heap.size ≤ w1.heap.size := HB1.out.size
                  clear hb1
                  have HOa : Hid ((w1.alloc (.cells #[.int .i64 0, .int .i64 0, .string ⟨#[]⟩] 42)).ownsRow w.heap.size 42 3 u4 i (cellsF i (yK s) (yN s) (yS s))) := World.ownsRow.alloc HO1.out _
                  have HBa : Hid (Below w.heap.size w (w1.alloc (.cells #[.int .i64 0, .int .i64 0, .string ⟨#[]⟩] 42))) := HB1.out.alloc hw1 _
                  have hwa : w1.heap.size < (w1.alloc (.cells #[.int .i64 0, .int .i64 0, .string ⟨#[]⟩] 42)).heap.size := by simp
                  have d0 : (w1.alloc (.cells #[.int .i64 0, .int .i64 0, .string ⟨#[]⟩] 42)).cell? ⟨w1.heap.size, 0, none⟩ = some (.int .i64 0) := by go_simp
                  have d1 : (w1.alloc (.cells #[.int .i64 0, .int .i64 0, .string ⟨#[]⟩] 42)).cell? ⟨w1.heap.size, 1, none⟩ = some (.int .i64 0) := by go_simp
                  have d2 : (w1.alloc (.cells #[.int .i64 0, .int .i64 0, .string ⟨#[]⟩] 42)).cell? ⟨w1.heap.size, 2, none⟩ = some (.string ⟨#[]⟩) := by go_simp
                  go_upto_region 17 with fail
                  change Code.wp _ _ _ _ (w1.alloc (.cells #[.int .i64 0, .int .i64 0, .string ⟨#[]⟩] 42))
                  generalize (w1.alloc (.cells #[.int .i64 0, .int .i64 0, .string ⟨#[]⟩] 42)) = X at *
                  have hwx : w.heap.size ≤ X.heap.size := HBa.out.size
                  have hly := liesOne X (0) (0) (⟨#[]⟩)
                  have HLY : Hid _ := hly
                  clear hly
                  go_wp2_with fail
                  refine (rkey _ 1 1 (fun _ => 0) (fun _ => 0) (fun _ => ⟨#[]⟩) _ HLY.out ?_).mono ?_
                  · show 9 * 1 + 2 * (0 + (⟨#[]⟩ : ByteArray).size) ≤ 1000000000000
                    first | (show 9 * 1 + 2 * (0 + 0) ≤ 1000000000000; omega) | omega
                  rintro e w3 ⟨rfl, hb3⟩
                  rw [kyL_1]
                  have e0' := keepCell hb3 (keepSize (((Below.refl _ _).alloc (Nat.le_refl _) _)) hwa) (keepCell (((Below.refl _ _).alloc (Nat.le_refl _) _)) hwa d0)
                  have e1' := keepCell hb3 (keepSize (((Below.refl _ _).alloc (Nat.le_refl _) _)) hwa) (keepCell (((Below.refl _ _).alloc (Nat.le_refl _) _)) hwa d1)
                  have e2' := keepCell hb3 (keepSize (((Below.refl _ _).alloc (Nat.le_refl _) _)) hwa) (keepCell (((Below.refl _ _).alloc (Nat.le_refl _) _)) hwa d2)
                  have HB3 : Hid (Below w.heap.size w w3) := (HBa.out.alloc hwx _).trans (hb3.mono (by simp; omega))
                  have HO3 : Hid (w3.ownsRow w.heap.size 42 3 u4 i (cellsF i (yK s) (yN s) (yS s))) := row_below (World.ownsRow.alloc HOa.out _) hb3
                  have hw3 : w.heap.size ≤ w3.heap.size := HB3.out.size
                  clear hb3 d0 d1 d2 HLY
                  generalize kyV (0) (0) (⟨#[]⟩) = kv at *
                  have hks : (⟨kv.toArray⟩ : ByteArray).size = kv.length := size_mkN _
                  have hpp := HPre.out
                  generalize (⟨kv.toArray⟩ : ByteArray) = T at *
                  generalize kv.length = m at *
                  by_cases hlen : m ≤ x.size
                  · have t1 : ¬ ((x.size : Int) < (m : Int)) := by omega
                    have t2 : (m : Int) ≤ (x.size : Int) := by omega
                    have t3 := str_neN hpp
                    clear hpp
                    go_wp2_with fail
                    go_ret2
                    exact ⟨.inr ⟨HN.out, rfl⟩, HB3.out⟩
                  · have t1 : (x.size : Int) < (m : Int) := by omega
                    clear hpp
                    go_wp2_with fail
                    go_ret2
                    exact ⟨.inr ⟨HN.out, rfl⟩, HB3.out⟩
    · have HA : Hid (isKey s i) := by
        show kP s i = some s.size
        rw [HP.out, show p = s.size by omega]
      have hE : ex s p = ⟨#[]⟩ := empty_of (by rw [ex_size]; omega)
      rw [hE]
      go_wp2_with fail
      go_ret2
      exact ⟨.inl ⟨i, _, HA.out, rfl, HO.out⟩, HB.out⟩
end Go.Proofs.Ythimnpobcfkghaa
