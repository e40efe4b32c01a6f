/- relstorelaw.disks: Write, Cut, Sync, for any contracts of the two calls -/
import Derived.Test.YtfjkockcgddgbaaDrsD
namespace Go.Proofs.Ytfjkockcgddgbaa
open Go.RowKit Go.Lib
attribute [local go_sem ↓] Go.wp_at_zero Go.wp_at_succ
set_option maxRecDepth 20000 in
set_option maxHeartbeats 1000000 in
theorem ldisks2G (fi ai ni : Int) (s t : ByteArray) (kv cv : Value) (X : World) (B D R : Nat) (hB : B ≤ X.heap.size) (E : Int) (Pp Pq Rp Rq : World → Prop)
    (hP : ∀ w, Below X.heap.size X w → Pp w) (hR : ∀ w, Below X.heap.size X w → Rp w)
    (hA : ∀ w, B ≤ w.heap.size → Pp w → Calls Try.prog 27 #[(.pointer (some ⟨D, 0, none⟩)), .int .i64 fi, .int .i64 ai, .string s] w fun e w' => e = .returned (.int .i64 E) ∧ Pq w' ∧ BelT tyP B w w')
    (hC : ∀ w, B ≤ w.heap.size → Rp w → Calls Try.prog 28 #[(.pointer (some ⟨R, 0, none⟩)), .int .i64 fi, .int .i64 ai, .string s] w fun e w' => e = .returned (.int .i64 E) ∧ Rq w' ∧ BelT tyR B w w')
    (hpA : ∀ w w', Pp w → BelT tyR B w w' → Pp w') (hqA : ∀ w w', Pq w → BelT tyR B w w' → Pq w') (hpC : ∀ w w', Rp w → BelT tyP B w w' → Rp w') (hqC : ∀ w w', Rq w → BelT tyP B w w' → Rq w') :
    Calls Try.prog 8 #[(.pointer (some ⟨D, 0, none⟩)), (.pointer (some ⟨R, 0, none⟩)), (.agg #[.int .i64 2, .int .i64 fi, .int .i64 ai, .int .i64 ni, .string s, .string t, kv, cv])] X fun e w' => e = .returned (.bool true) ∧ (Pq w' ∧ Rq w') ∧ Below B X w' := by
  have HA : Hid _ := hA
  have HC : Hid _ := hC
  have HP : Hid _ := hP
  have HR : Hid _ := hR
  have HpA : Hid _ := hpA
  have HqA : Hid _ := hqA
  have HpC : Hid _ := hpC
  have HqC : Hid _ := hqC
  clear hA hC hP hR hpA hqA hpC hqC
  go_enter Try.func8, Try.ntmps8
  go_wp2_with fail
  refine regW fi ai ni s t kv cv 2 X.heap.size B D R E Pp Pq Rp Rq ?hob ?hB ?hP ?hR HA.out HC.out HpA.out HqA.out HpC.out HqC.out (by simp) rfl rfl rfl rfl (by kernel_rfl) (by kernel_rfl) (by kernel_rfl) (by kernel_rfl) (by kernel_rfl) (by kernel_rfl) (by kernel_rfl) (by kernel_rfl) (by kernel_rfl) (by kernel_rfl) (by kernel_rfl) (by kernel_rfl) (by kernel_rfl) ?_
  case hob => exact heap_alloc_new X _
  case hB => simp; omega
  case hP => exact HP.out _ ((Below.refl _ _).alloc (Nat.le_refl _) _).drew
  case hR => exact HR.out _ ((Below.refl _ _).alloc (Nat.le_refl _) _).drew
  rintro ⟨T, ds⟩ w' hd he hp' hr' hb'
  have hd : ds = [] := hd
  subst hd
  have he : T.getD 6 undef = .bool true := he
  have HH : Hid _ := And.intro hp' hr'
  have HB : Hid (Below B X w') := ((Below.refl _ _).alloc hB _).trans hb'
  clear hp' hr' hb'
  go_wp2
  go_ret
  exact ⟨by first | rw [he] | (simp only [← he]; rfl) | (rw [← he]; rfl), HH.out, HB.out⟩
set_option maxRecDepth 20000 in
set_option maxHeartbeats 1000000 in
theorem ldisks3G (fi ai ni : Int) (s t : ByteArray) (kv cv : Value) (X : World) (B D R : Nat) (hB : B ≤ X.heap.size) (E : Int) (Pp Pq Rp Rq : World → Prop)
    (hP : ∀ w, Below X.heap.size X w → Pp w) (hR : ∀ w, Below X.heap.size X w → Rp w)
    (hA : ∀ w, B ≤ w.heap.size → Pp w → Calls Try.prog 29 #[(.pointer (some ⟨D, 0, none⟩)), .int .i64 fi, .int .i64 ai] w fun e w' => e = .returned (.int .i64 E) ∧ Pq w' ∧ BelT tyP B w w')
    (hC : ∀ w, B ≤ w.heap.size → Rp w → Calls Try.prog 30 #[(.pointer (some ⟨R, 0, none⟩)), .int .i64 fi, .int .i64 ai] w fun e w' => e = .returned (.int .i64 E) ∧ Rq w' ∧ BelT tyR B w w')
    (hpA : ∀ w w', Pp w → BelT tyR B w w' → Pp w') (hqA : ∀ w w', Pq w → BelT tyR B w w' → Pq w') (hpC : ∀ w w', Rp w → BelT tyP B w w' → Rp w') (hqC : ∀ w w', Rq w → BelT tyP B w w' → Rq w') :
    Calls Try.prog 8 #[(.pointer (some ⟨D, 0, none⟩)), (.pointer (some ⟨R, 0, none⟩)), (.agg #[.int .i64 3, .int .i64 fi, .int .i64 ai, .int .i64 ni, .string s, .string t, kv, cv])] X fun e w' => e = .returned (.bool true) ∧ (Pq w' ∧ Rq w') ∧ Below B X w' := by
  have HA : Hid _ := hA
  have HC : Hid _ := hC
  have HP : Hid _ := hP
  have HR : Hid _ := hR
  have HpA : Hid _ := hpA
  have HqA : Hid _ := hqA
  have HpC : Hid _ := hpC
  have HqC : Hid _ := hqC
  clear hA hC hP hR hpA hqA hpC hqC
  go_enter Try.func8, Try.ntmps8
  go_wp2_with fail
  refine regC fi ai ni s t kv cv 3 X.heap.size B D R E Pp Pq Rp Rq ?hob ?hB ?hP ?hR HA.out HC.out HpA.out HqA.out HpC.out HqC.out (by simp) rfl rfl rfl rfl (by kernel_rfl) (by kernel_rfl) (by kernel_rfl) (by kernel_rfl) (by kernel_rfl) (by kernel_rfl) (by kernel_rfl) (by kernel_rfl) (by kernel_rfl) (by kernel_rfl) (by kernel_rfl) ?_
  case hob => exact heap_alloc_new X _
  case hB => simp; omega
  case hP => exact HP.out _ ((Below.refl _ _).alloc (Nat.le_refl _) _).drew
  case hR => exact HR.out _ ((Below.refl _ _).alloc (Nat.le_refl _) _).drew
  rintro ⟨T, ds⟩ w' hd he hp' hr' hb'
  have hd : ds = [] := hd
  subst hd
  have he : T.getD 6 undef = .bool true := he
  have HH : Hid _ := And.intro hp' hr'
  have HB : Hid (Below B X w') := ((Below.refl _ _).alloc hB _).trans hb'
  clear hp' hr' hb'
  go_wp2
  go_ret
  exact ⟨by first | rw [he] | (simp only [← he]; rfl) | (rw [← he]; rfl), HH.out, HB.out⟩
set_option maxRecDepth 20000 in
set_option maxHeartbeats 1000000 in
theorem ldisks5G (fi ai ni : Int) (s t : ByteArray) (kv cv : Value) (X : World) (B D R : Nat) (hB : B ≤ X.heap.size) (E : Int) (Pp Pq Rp Rq : World → Prop)
    (hP : ∀ w, Below X.heap.size X w → Pp w) (hR : ∀ w, Below X.heap.size X w → Rp w)
    (hA : ∀ w, B ≤ w.heap.size → Pp w → Calls Try.prog 33 #[(.pointer (some ⟨D, 0, none⟩)), .int .i64 fi] w fun e w' => e = .returned (.int .i64 E) ∧ Pq w' ∧ BelT tyP B w w')
    (hC : ∀ w, B ≤ w.heap.size → Rp w → Calls Try.prog 34 #[(.pointer (some ⟨R, 0, none⟩)), .int .i64 fi] w fun e w' => e = .returned (.int .i64 E) ∧ Rq w' ∧ BelT tyR B w w')
    (hpA : ∀ w w', Pp w → BelT tyR B w w' → Pp w') (hqA : ∀ w w', Pq w → BelT tyR B w w' → Pq w') (hpC : ∀ w w', Rp w → BelT tyP B w w' → Rp w') (hqC : ∀ w w', Rq w → BelT tyP B w w' → Rq w') :
    Calls Try.prog 8 #[(.pointer (some ⟨D, 0, none⟩)), (.pointer (some ⟨R, 0, none⟩)), (.agg #[.int .i64 5, .int .i64 fi, .int .i64 ai, .int .i64 ni, .string s, .string t, kv, cv])] X fun e w' => e = .returned (.bool true) ∧ (Pq w' ∧ Rq w') ∧ Below B X w' := by
  have HA : Hid _ := hA
  have HC : Hid _ := hC
  have HP : Hid _ := hP
  have HR : Hid _ := hR
  have HpA : Hid _ := hpA
  have HqA : Hid _ := hqA
  have HpC : Hid _ := hpC
  have HqC : Hid _ := hqC
  clear hA hC hP hR hpA hqA hpC hqC
  go_enter Try.func8, Try.ntmps8
  go_wp2_with fail
  refine regS fi ai ni s t kv cv 5 X.heap.size B D R E Pp Pq Rp Rq ?hob ?hB ?hP ?hR HA.out HC.out HpA.out HqA.out HpC.out HqC.out (by simp) rfl rfl rfl rfl (by kernel_rfl) (by kernel_rfl) (by kernel_rfl) (by kernel_rfl) (by kernel_rfl) (by kernel_rfl) (by kernel_rfl) (by kernel_rfl) (by kernel_rfl) ?_
  case hob => exact heap_alloc_new X _
  case hB => simp; omega
  case hP => exact HP.out _ ((Below.refl _ _).alloc (Nat.le_refl _) _).drew
  case hR => exact HR.out _ ((Below.refl _ _).alloc (Nat.le_refl _) _).drew
  rintro ⟨T, ds⟩ w' hd he hp' hr' hb'
  have hd : ds = [] := hd
  subst hd
  have he : T.getD 6 undef = .bool true := he
  have HH : Hid _ := And.intro hp' hr'
  have HB : Hid (Below B X w') := ((Below.refl _ _).alloc hB _).trans hb'
  clear hp' hr' hb'
  go_wp2
  go_ret
  exact ⟨by first | rw [he] | (simp only [← he]; rfl) | (rw [← he]; rfl), HH.out, HB.out⟩
end Go.Proofs.Ytfjkockcgddgbaa
