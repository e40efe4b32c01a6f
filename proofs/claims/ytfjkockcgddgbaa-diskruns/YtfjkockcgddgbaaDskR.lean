/- relstoreref's disk: filled, on -/
import Derived.Test.YtfjkockcgddgbaaDsk9
namespace Go.Proofs.Ytfjkockcgddgbaa
open Go.RowKit Go.Lib
attribute [local go_sem ↓] Go.wp_at_zero Go.wp_at_succ
theorem ll_mk (l : List UInt8) : ll ⟨l.toArray⟩ = l := rfl
theorem ll_extract (s : ByteArray) (a b : Nat) : ll (s.extract a b) = ((ll s).take b).drop a := by
  unfold ll
  rw [ByteArray.data_extract, Array.toList_extract, List.extract_eq_take_drop, List.drop_take]
theorem made_text (W : World) (F : Nat) (hF : F ≤ 67108864) : ∃ W', (Instr.makeSlice 56 (.int .i64 (F : Int)) (.int .i64 (F : Int))).run Try.prog W = .ok (.slice (some ⟨W.heap.size, 0, none⟩) F F) W' ∧ (convert 56 9 (.slice (some ⟨W.heap.size, 0, none⟩) F F)).run Try.prog W' = .ok (.string ⟨(List.replicate F 0).toArray⟩) W' ∧ Below W.heap.size W W' := by
  obtain ⟨i0, hi, hz0, hz1, hz2⟩ := info_parts infoB
  have hm := run_make (P := Try.prog) W 56 5 i0 (.int .u8 0) Try.underlying56 hi hz0 .i64 .i64 (F : Int) (F : Int) (by omega) (by omega) (by rw [hz2]; omega) (by omega)
  rw [hz1] at hm
  simp only [Int.toNat_natCast, Nat.mul_one] at hm
  refine ⟨_, hm, ?_, (Below.refl _ _).alloc (Nat.le_refl _) _⟩
  have := run_convert_bytes_back (P := Try.prog) (W.alloc (.cells (madeCells (Value.int IntKind.u8 0).cells F) 5)) 56 9 5 ⟨W.heap.size, 0, none⟩ F (List.replicate F 0) Try.underlying56 Try.underlying5 Try.underlying9 (fun j hj => by
    have hj' : j < F := by simpa using hj
    rw [Addr.add_lit, Nat.zero_add]
    simp only [World.cell?, World.alloc_heap_new]
    have e : (madeCells (Value.int IntKind.u8 0).cells F).toList = List.replicate F (.int .u8 0) := toList_madeCells_one _ _
    rw [← Array.getElem?_toList, e, List.getElem?_replicate, if_pos hj']
    simp)
  rw [List.length_replicate] at this
  exact this
set_option maxHeartbeats 1000000 in
set_option maxRecDepth 20000 in
theorem rfilled (s : ByteArray) (n : Nat) (w : World) (hn : n ≤ 67108864) (hs : s.size ≤ 67108864) :
    Calls Try.prog 75 #[.string s, .int .i64 n] w fun e w' => e = .returned (.string ⟨(fil (ll s) n).toArray⟩) ∧ Below w.heap.size w w' := by
  by_cases h : n ≤ s.size
  · have e : (⟨(fil (ll s) n).toArray⟩ : ByteArray) = s := by rw [fil_le (by rw [ll_len]; exact h)]; exact ll_inj rfl
    rw [e]
    clear e
    have h' : (n : Int) ≤ (s.size : Int) := by omega
    go_enter Try.func75, Try.ntmps75
    go_wp2_with fail
    go_ret
    exact ⟨rfl, Below.refl _ _⟩
  · have h' : ¬ (n : Int) ≤ (s.size : Int) := by omega
    obtain ⟨F, hF⟩ : ∃ F : Nat, n = s.size + F := ⟨n - s.size, by omega⟩
    have HE : Hid ((⟨(fil (ll s) n).toArray⟩ : ByteArray) = s ++ ⟨(List.replicate F 0).toArray⟩) := by
      show (⟨(fil (ll s) n).toArray⟩ : ByteArray) = s ++ ⟨(List.replicate F 0).toArray⟩
      apply ll_inj
      unfold fil
      rw [ll_len, show n - s.size = F by omega, ll_mk]
      simp [ll]
    obtain ⟨Y1, hmk, hcv, hb1⟩ := made_text w F (by omega)
    have HB : Hid _ := hb1
    have e1 : (n : Int) - (s.size : Int) = (F : Int) := by omega
    clear hF hb1
    go_enter Try.func75, Try.ntmps75
    go_wp2_with fail
    go_ret
    exact ⟨by rw [HE.out, List.toArray_replicate]; rfl, HB.out⟩
theorem rfilledE (s : ByteArray) (n : Nat) (w : World) (hn : n ≤ 67108864) (hs : s.size ≤ 67108864) :
    Calls Try.prog 75 #[.string s, .int .i64 n] w fun e w' => ∃ y : ByteArray, e = .returned (.string y) ∧ ll y = fil (ll s) n ∧ Below w.heap.size w w' :=
  (rfilled s n w hn hs).mono fun _ _ h => ⟨_, h.1, rfl, h.2⟩
theorem fil_size {y s : ByteArray} {n : Nat} (h : ll y = fil (ll s) n) : n ≤ y.size := by
  rw [← ll_len, h, fil_len]; omega
theorem ll_app (a b : ByteArray) : ll (a ++ b) = ll a ++ ll b := by simp [ll]
theorem below_box {w w2 : World} {o : Obj} {m : Nat} (hb : Below ((w.alloc o).drewN m).heap.size ((w.alloc o).drewN m) w2) : Below w.heap.size w w2 ∧ w2.heap[w.heap.size]? = some o := by
  have h1 : ((w.alloc o).drewN m).heap.size = w.heap.size + 1 := by show (w.alloc o).heap.size = _; simp
  have h2 : Below w.heap.size w ((w.alloc o).drewN m) := Below.trans (((Below.refl _ _).alloc (Nat.le_refl _) _) : Below w.heap.size w (w.alloc o)) ⟨rfl, rfl, rfl, Nat.le_refl _, fun _ _ => rfl⟩
  refine ⟨h2.trans (hb.mono (by omega)), (hb.block _ (by omega)).trans ?_⟩
  show (w.alloc o).heap[w.heap.size]? = some o
  exact heap_alloc_new w o
theorem below_boxd {w w2 : World} {o : Obj} (hb : Below (w.alloc o).drew.heap.size (w.alloc o).drew w2) : Below w.heap.size w w2 ∧ w2.heap[w.heap.size]? = some o := below_box (m := 1) hb
set_option maxRecDepth 20000 in
set_option maxHeartbeats 1000000 in
theorem ron (f p : Nat) (t : ByteArray) (c : Bool) (s : ByteArray) (w : World) (hp : p + t.size ≤ 67108864) (hc : c = true → t.size = 0) (hs : s.size ≤ 67108864) :
    Calls Try.prog 59 #[.agg #[.int .i64 f, .int .i64 p, .string t, .bool c], .string s] w fun e w' => e = .returned (.string ⟨(onL p t c (ll s)).toArray⟩) ∧ Below w.heap.size w w' := by
  cases c
  · clear hc
    have hy : p + t.size ≤ (⟨(fil (ll s) (p + t.size)).toArray⟩ : ByteArray).size := by
      show p + t.size ≤ (fil (ll s) (p + t.size)).toArray.size
      rw [List.size_toArray, fil_len]; omega
    have hz : (⟨(fil (ll s) (p + t.size)).toArray⟩ : ByteArray).size ≤ 67108864 := by
      show (fil (ll s) (p + t.size)).toArray.size ≤ 67108864
      rw [List.size_toArray, fil_len, ll_len]; omega
    have HE : Hid (∀ y : ByteArray, ll y = fil (ll s) (p + t.size) → (⟨(onL p t false (ll s)).toArray⟩ : ByteArray) = y.extract 0 p ++ t ++ y.extract (p + t.size) y.size) := fun y hy' => by
      apply ll_inj
      show onL p t false (ll s) = _
      unfold onL
      rw [if_neg (by decide), ll_app, ll_app, ll_extract, ll_extract, hy', List.drop_zero, ← ll_len y, hy', List.take_length]
    go_enter Try.func59, Try.ntmps59
    go_wp2_with fail
    refine (rfilled s (p + t.size) _ hp hs).mono ?_
    rintro e w2 ⟨rfl, hb⟩
    obtain ⟨hb1, hb2⟩ := below_box (m := 0) hb
    have HB : Hid (Below w.heap.size w w2) := hb1
    have d1 : w2.cell? ⟨w.heap.size, 1, none⟩ = some (.int .i64 p) := by simp [World.cell?, hb2]
    have d2 : w2.cell? ⟨w.heap.size, 2, none⟩ = some (.string t) := by simp [World.cell?, hb2]
    clear hb hb1 hb2
    have HE2 : Hid _ := HE.out _ (rfl : ll ⟨(fil (ll s) (p + t.size)).toArray⟩ = _)
    generalize (⟨(fil (ll s) (p + t.size)).toArray⟩ : ByteArray) = y at *
    have k1 : (p : Int) ≤ (y.size : Int) := by omega
    have k2 : (p : Int) + (t.size : Int) ≤ (y.size : Int) := by omega
    go_wp2_with fail
    go_quiet (fail)
    go_wp2
    go_ret
    exact ⟨by rw [HE2.out]; rfl, HB.out.trans ⟨rfl, rfl, rfl, Nat.le_refl _, fun _ _ => rfl⟩⟩
  · have ht := hc rfl
    clear hc
    have hy : p ≤ (⟨(fil (ll s) p).toArray⟩ : ByteArray).size := by
      show p ≤ (fil (ll s) p).toArray.size
      rw [List.size_toArray, fil_len]; omega
    have HE : Hid (∀ y : ByteArray, ll y = fil (ll s) p → (⟨(onL p t true (ll s)).toArray⟩ : ByteArray) = y.extract 0 p) := fun y hy' => by
      apply ll_inj
      show onL p t true (ll s) = _
      unfold onL
      rw [if_pos rfl, ht, Nat.add_zero, ll_extract, hy', List.drop_zero]
    have hp' : p ≤ 67108864 := by omega
    go_enter Try.func59, Try.ntmps59
    go_wp2_with fail
    go_region_with (go_at_call 75; refine (rfilledE s p _ hp' hs).mono ?_; rintro e w2 ⟨y, rfl, hly, hb⟩; have hbb := below_boxd hb; have HB : Hid (Below w.heap.size w w2) := hbb.1; have hb2 := hbb.2; have d1 : w2.cell? ⟨w.heap.size, 1, none⟩ = some (.int .i64 p) := (by simp [World.cell?, hb2]); have HE2 : Hid _ := HE.out _ hly; have k0 := fil_size hly; have k1 : (p : Int) ≤ (y.size : Int) := (by omega); clear hb hbb hb2 hly)
    all_goals
      go_wp2
      go_ret
      exact ⟨by rw [HE2.out]; rfl, HB.out⟩
end Go.Proofs.Ytfjkockcgddgbaa
