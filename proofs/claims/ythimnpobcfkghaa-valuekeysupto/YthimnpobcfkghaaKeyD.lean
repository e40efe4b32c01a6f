/- value.readKeyText -/
import Derived.Test.YthimnpobcfkghaaKeyC
namespace Go.Proofs.Ythimnpobcfkghaa
open Go.RowKit Go.Lib
attribute [local go_sem ↓] Go.wp_at_zero Go.wp_at_succ
theorem unesc_ne {b : UInt8} (h : ¬ b = 0) : ∀ r : List UInt8, unesc (b :: r) = (unesc r).map (fun q => (b :: q.1, q.2))
  | [] => rfl
  | c :: r => by
    show (if b = 0 then _ else (unesc (c :: r)).map (fun p => (b :: p.1, p.2))) = _
    rw [if_neg h]
/- how far the reading has come -/
def rdT (l : List UInt8) (i : Nat) (bs : List UInt8) : Prop := unesc l = (unesc (l.drop i)).map (fun q => (bs ++ q.1, q.2))
theorem rdT_0 (l : List UInt8) : rdT l 0 [] := by
  unfold rdT
  show unesc l = (unesc l).map fun q => ([] ++ q.1, q.2)
  cases unesc l <;> rfl
theorem rdT_ne {x : ByteArray} {i : Nat} {bs : List UInt8} (h : rdT (ll x) i bs) (hi : i < x.size) (hb : ¬ bytN x i = 0) : rdT (ll x) (i + 1) (bs ++ [UInt8.ofNat (bytN x i)]) := by
  unfold rdT at h ⊢
  rw [h, dropE hi, unesc_ne (fun e => hb ((ofNat_0 (bytN_lt x i)).1 e))]
  cases unesc ((ll x).drop (i + 1)) with
  | none => rfl
  | some q => simp
theorem rdT_zero {x : ByteArray} {i : Nat} {bs : List UInt8} (h : rdT (ll x) i bs) (hi : i + 1 < x.size) (hb : bytN x i = 0) (hc : bytN x (i + 1) = 255) : rdT (ll x) (i + 2) (bs ++ [0]) := by
  unfold rdT at h ⊢
  rw [h, dropE (show i < x.size by omega), dropE hi, hb, hc]
  show ((unesc ((ll x).drop (i + 2))).map (fun p => ((0 : UInt8) :: p.1, p.2))).map _ = _
  cases unesc ((ll x).drop (i + 2)) with
  | none => rfl
  | some q => simp
theorem rdT_end {x : ByteArray} {i : Nat} {bs : List UInt8} (h : rdT (ll x) i bs) (hi : i + 1 < x.size) (hb : bytN x i = 0) (hc : bytN x (i + 1) = 1) : unesc (ll x) = some (bs, (ll x).drop (i + 2)) := by
  unfold rdT at h
  rw [h, dropE (show i < x.size by omega), dropE hi, hb, hc]
  show some (bs ++ [], (ll x).drop (i + 2)) = _
  rw [List.append_nil]
theorem rdT_bad {x : ByteArray} {i : Nat} {bs : List UInt8} (h : rdT (ll x) i bs) (hi : i + 1 < x.size) (hb : bytN x i = 0) (hc : ¬ bytN x (i + 1) = 1) (hd : ¬ bytN x (i + 1) = 255) : unesc (ll x) = none := by
  unfold rdT at h
  have hl := bytN_lt x (i + 1)
  rw [h, dropE (show i < x.size by omega), dropE hi, hb]
  have e1 : ¬ UInt8.ofNat (bytN x (i + 1)) = 255 := fun e => hd (by have := congrArg UInt8.toNat e; rw [UInt8.toNat_ofNat'] at this; simp at this; omega)
  have e2 : ¬ UInt8.ofNat (bytN x (i + 1)) = 1 := fun e => hc (by have := congrArg UInt8.toNat e; rw [UInt8.toNat_ofNat'] at this; simp at this; omega)
  show (if UInt8.ofNat 0 = 0 then (if UInt8.ofNat (bytN x (i + 1)) = 255 then _ else if UInt8.ofNat (bytN x (i + 1)) = 1 then _ else none) else _).map _ = none
  rw [if_pos (show UInt8.ofNat 0 = 0 from rfl), if_neg e1, if_neg e2]; rfl
theorem rdT_short {x : ByteArray} {i : Nat} {bs : List UInt8} (h : rdT (ll x) i bs) (hi : i + 1 = x.size) (_hb : bytN x i = 0) : unesc (ll x) = none := by
  unfold rdT at h
  rw [h, dropE (show i < x.size by omega), List.drop_of_length_le (by rw [ll_len]; omega)]
  rfl
theorem rdT_out {x : ByteArray} {i : Nat} {bs : List UInt8} (h : rdT (ll x) i bs) (hi : x.size ≤ i) : unesc (ll x) = none := by
  unfold rdT at h
  rw [h, List.drop_of_length_le (by rw [ll_len]; omega)]
  rfl
theorem own_textA {X : World} {base : Nat} {v : Value} {l : List UInt8} (h : X.ownsRow base 5 1 v l.length (valsB l)) (hz : l = [] → v = .slice none 0 0) : (convert 66 9 v).run Try.prog X = .ok (.string ⟨l.toArray⟩) X := by
  by_cases h0 : l = []
  · rw [hz h0, h0]; exact nil_text X
  · exact own_text h (by cases l with
      | nil => exact absurd rfl h0
      | cons a l => simp)
theorem zcells {w X : World} (h : Below (w.heap.size + 1) (w.alloc (.cells #[.int .i64 0, .int .i64 0, .string ⟨#[]⟩] 42)) X) : X.cell? ⟨w.heap.size, 0, none⟩ = some (.int .i64 0) ∧ X.cell? ⟨w.heap.size, 1, none⟩ = some (.int .i64 0) ∧ X.cell? ⟨w.heap.size, 2, none⟩ = some (.string ⟨#[]⟩) ∧ X.frozen? ⟨w.heap.size, 0, none⟩ = false ∧ X.frozen? ⟨w.heap.size, 1, none⟩ = false ∧ X.frozen? ⟨w.heap.size, 2, none⟩ = false ∧ w.heap.size < X.heap.size := by
  refine ⟨?_, ?_, ?_, ?_, ?_, ?_, ?_⟩
  · rw [h.cell (p := ⟨w.heap.size, 0, none⟩) (Nat.lt_succ_self _)]; go_simp
  · rw [h.cell (p := ⟨w.heap.size, 1, none⟩) (Nat.lt_succ_self _)]; go_simp
  · rw [h.cell (p := ⟨w.heap.size, 2, none⟩) (Nat.lt_succ_self _)]; go_simp
  · rw [h.frozen (p := ⟨w.heap.size, 0, none⟩) (Nat.lt_succ_self _)]; go_simp
  · rw [h.frozen (p := ⟨w.heap.size, 1, none⟩) (Nat.lt_succ_self _)]; go_simp
  · rw [h.frozen (p := ⟨w.heap.size, 2, none⟩) (Nat.lt_succ_self _)]; go_simp
  · have := h.size; simp at this; omega
theorem zbelow {w X : World} (h : Below (w.heap.size + 1) (w.alloc (.cells #[.int .i64 0, .int .i64 0, .string ⟨#[]⟩] 42)) X) : Below w.heap.size w X := ((Below.refl _ _).alloc (Nat.le_refl _) _).trans (h.mono (by omega))
set_option maxRecDepth 20000 in
set_option maxHeartbeats 2000000 in
theorem vreadKT (x : ByteArray) (w : World) (hx : x.size ≤ 1099511000000) :
    Calls Try.prog 61 #[.string x] w fun e w' => ((∃ t q, q ≤ x.size ∧ unesc (ll x) = some (t, (ll x).drop q) ∧ e = .returned (.tuple #[(.agg #[.int .i64 (3), .int .i64 (0), .string (⟨t.toArray⟩)]), .string (ex x q), .bool true])) ∨ (unesc (ll x) = none ∧ e = .returned (.tuple #[(.agg #[.int .i64 (0), .int .i64 (0), .string (⟨#[]⟩)]), .string ⟨#[]⟩, .bool false]))) ∧ Below w.heap.size w w' := by
  obtain ⟨i0, hi, hz0, hz1, hz2⟩ := info_parts infoB
  go_enter Try.func61, Try.ntmps61
  go_wp2_with fail
  go_loopw [5, 6] (fun v y X => ∃ (i : Nat) (bs : List UInt8), y = .int .i64 i ∧ i ≤ x.size ∧ bs.length ≤ i ∧ Hid (rdT (ll x) i bs) ∧ Hid (bs = [] → v = .slice none 0 0) ∧ Hid (X.ownsRow (w.heap.size + 1) 5 1 v bs.length (valsB bs)) ∧ Hid (Below (w.heap.size + 1) (w.alloc (.cells #[.int .i64 0, .int .i64 0, .string ⟨#[]⟩] 42)) X)) (fun _ y _ => x.size - (intOf y).toNat)
  case atStart => exact ⟨0, [], rfl, Nat.zero_le _, Nat.le_refl _, rdT_0 _, (fun _ => rfl : ([] : List UInt8) = [] → Value.slice none 0 0 = .slice none 0 0), World.ownsRow_nil _ _ _ _, Below.refl _ _⟩
  case round =>
    obtain ⟨i, bs, rfl, hle, hbl, HT, HZ, HO, HB⟩ := hrel
    obtain ⟨c0, c1, c2, f0, f1, f2, hzw⟩ := zcells HB.out
    by_cases h0 : i < x.size
    · have k0 : (0 : Int) ≤ (i : Int) := by omega
      have k1 : (i : Int) < (x.size : Int) := by omega
      have gb := bytN_get h0
      have gl := bytN_lt x i
      by_cases hb : bytN x i = 0
      · rw [hb] at gb
        by_cases hs : i + 1 < x.size
        · have k2 : (i : Int) + 1 < (x.size : Int) := by omega
          have k3 : (0 : Int) ≤ (i : Int) + 1 := by omega
          have gc := bytN_get hs
          have gcl := bytN_lt x (i + 1)
          by_cases hc : bytN x (i + 1) = 255
          · rw [hc] at gc
            have HT2 : Hid (rdT (ll x) (i + 2) (bs ++ [0])) := rdT_zero HT.out hs hb hc
            go_wp2_with (at_builtin; go_must (refine wpList_append_lies _ rfl _ _ _ rfl (w.heap.size + 1) 5 i0 (.int .u8 0) 1 1 Try.underlying66 hi hz0 hz1 hz2 rfl (by decide) _ (bs.length) _ rfl (World.ownsRow.alloc HO.out _) _ 1 1 [.int .u8 0] rfl rfl ?q1 ?q2 (by decide) ?q3 ?q4 ?q5 _ rfl ?_))
            case q1 => exact cell_one_new _ _ _
            case q2 => intro u hu; simp at hu; rw [hu]; rfl
            case q3 => unfold maxLen; omega
            case q4 => omega
            case q5 => simp; omega
            intro g1 cap1 w1 hown1 hgrow hat hlt1
            have HB1 : Hid (Below (w.heap.size + 1) (w.alloc (.cells #[.int .i64 0, .int .i64 0, .string ⟨#[]⟩] 42)) w1) := below_app (HB.out.alloc (by omega) _) (World.ownsRow.alloc HO.out _) (by simp; omega) hgrow
            have HO1 : Hid (w1.ownsRow (w.heap.size + 1) 5 1 (.slice (some ⟨g1, 0, none⟩) (bs.length + 1) cap1) (bs ++ [0]).length (valsB (bs ++ [0]))) := by
              show w1.ownsRow (w.heap.size + 1) 5 1 (.slice (some ⟨g1, 0, none⟩) (bs.length + 1) cap1) (bs ++ [0]).length (valsB (bs ++ [0]))
              rw [List.length_append]
              exact own_eqN hown1 (by simp [valsB])
            clear hown1 hgrow hat c0 c1 c2 f0 f1 f2
            go_wp2_with fail
            exact ⟨⟨i + 2, bs ++ [0], by go_num, by omega, by simp; omega, HT2, (fun h => absurd h (by simp) : bs ++ [0] = [] → _), HO1, HB1⟩, by simp [intOf]; omega⟩
          · by_cases hd : bytN x (i + 1) = 1
            · rw [hd] at gc
              have HT2 : Hid (unesc (ll x) = some (bs, (ll x).drop (i + 2))) := rdT_end HT.out hs hb hd
              have hcv := own_textA (X := wr.drew) HO.out HZ.out
              have k4 : (i : Int) + 1 + 1 ≤ (x.size : Int) := by omega
              have k6 : IntKind.i64.wrap ((i : Int) + 1 + 1) = ((i + 2 : Nat) : Int) := by rw [IntKind.wrap_i64]; omega
              have k7 : ((i + 2 : Nat) : Int) ≤ (x.size : Int) := by omega
              go_wp2_with fail
              go_region_with (go_at_call 65; refine (vtext _ _).mono ?_; rintro e w' ⟨rfl, hb'⟩; obtain ⟨hc', hf'⟩ := bcell hb'; have hzz : w.heap.size < w'.heap.size := Nat.lt_of_lt_of_le hzw hb'.size; have d0 : w'.cell? ⟨w.heap.size, 0, none⟩ = some (.int .i64 0) := (hc' _ _ hzw).trans c0; have d1 : w'.cell? ⟨w.heap.size, 1, none⟩ = some (.int .i64 0) := (hc' _ _ hzw).trans c1; have d2 : w'.cell? ⟨w.heap.size, 2, none⟩ = some (.string ⟨#[]⟩) := (hc' _ _ hzw).trans c2; have e0 : w'.frozen? ⟨w.heap.size, 0, none⟩ = false := (hf' _ _ hzw).trans f0; have e1 : w'.frozen? ⟨w.heap.size, 1, none⟩ = false := (hf' _ _ hzw).trans f1; have e2 : w'.frozen? ⟨w.heap.size, 2, none⟩ = false := (hf' _ _ hzw).trans f2; clear hc' hf')
              all_goals
                go_wp2
                refine bodyPost_ret (v := .tuple #[(.agg #[.int .i64 (3), .int .i64 (0), .string (⟨bs.toArray⟩)]), .string (ex x (i + 2)), .bool true]) (by simp [results, Try.results61, go_sem, ex, *]) rfl ⟨.inl ⟨bs, i + 2, by omega, HT2.out, rfl⟩, ?_⟩
                exact (((((zbelow HB.out).drew).trans (hb'.mono (by simp; omega))).setCell (by simp <;> omega) _).setCell (by simp <;> omega) _).setCell (by simp <;> omega) _
            · have HN : Hid (unesc (ll x) = none) := rdT_bad HT.out hs hb hd hc
              generalize bytN x (i + 1) = c at *
              have m1 : ¬ ((c : Int) = 255) := by omega
              have m2 : ¬ ((c : Int) = 1) := by omega
              go_wp2_with fail
              refine bodyPost_ret (v := .tuple #[(.agg #[.int .i64 (0), .int .i64 (0), .string (⟨#[]⟩)]), .string ⟨#[]⟩, .bool false]) (by simp [results, Try.results61, go_sem, *]) rfl ⟨.inr ⟨HN.out, rfl⟩, ?_⟩; exact (((zbelow HB.out).setCell (by simp <;> omega) _).setCell (by simp <;> omega) _).setCell (by simp <;> omega) _
        · have HN : Hid (unesc (ll x) = none) := rdT_short HT.out (by omega) hb
          have k2 : ¬ ((i : Int) + 1 < (x.size : Int)) := by omega
          go_wp2_with fail
          refine bodyPost_ret (v := .tuple #[(.agg #[.int .i64 (0), .int .i64 (0), .string (⟨#[]⟩)]), .string ⟨#[]⟩, .bool false]) (by simp [results, Try.results61, go_sem, *]) rfl ⟨.inr ⟨HN.out, rfl⟩, ?_⟩; exact (((zbelow HB.out).setCell (by simp <;> omega) _).setCell (by simp <;> omega) _).setCell (by simp <;> omega) _
      · have HT2 : Hid (rdT (ll x) (i + 1) (bs ++ [UInt8.ofNat (bytN x i)])) := rdT_ne HT.out h0 hb
        generalize bytN x i = b at *
        have m1 : ¬ ((b : Int) = 0) := by omega
        go_wp2_with (at_builtin; go_must (refine wpList_append_lies _ rfl _ _ _ rfl (w.heap.size + 1) 5 i0 (.int .u8 0) 1 1 Try.underlying66 hi hz0 hz1 hz2 rfl (by decide) _ (bs.length) _ rfl (World.ownsRow.alloc HO.out _) _ 1 1 [.int .u8 (b : Int)] rfl rfl ?q1 ?q2 (by decide) ?q3 ?q4 ?q5 _ rfl ?_))
        case q1 => exact cell_one_new _ _ _
        case q2 => intro u hu; simp at hu; rw [hu]; rfl
        case q3 => unfold maxLen; omega
        case q4 => omega
        case q5 => simp; omega
        intro g1 cap1 w1 hown1 hgrow hat hlt1
        have HB1 : Hid (Below (w.heap.size + 1) (w.alloc (.cells #[.int .i64 0, .int .i64 0, .string ⟨#[]⟩] 42)) w1) := below_app (HB.out.alloc (by omega) _) (World.ownsRow.alloc HO.out _) (by simp; omega) hgrow
        have HO1 : Hid (w1.ownsRow (w.heap.size + 1) 5 1 (.slice (some ⟨g1, 0, none⟩) (bs.length + 1) cap1) (bs ++ [UInt8.ofNat b]).length (valsB (bs ++ [UInt8.ofNat b]))) := by
          show w1.ownsRow (w.heap.size + 1) 5 1 (.slice (some ⟨g1, 0, none⟩) (bs.length + 1) cap1) (bs ++ [UInt8.ofNat b]).length (valsB (bs ++ [UInt8.ofNat b]))
          rw [List.length_append]
          exact own_eqN hown1 (valsB_u8 _ _ gl)
        clear hown1 hgrow hat c0 c1 c2 f0 f1 f2
        go_wp2_with fail
        exact ⟨⟨i + 1, bs ++ [UInt8.ofNat b], by go_num, by omega, by simp; omega, HT2, (fun h => absurd h (by simp) : bs ++ [UInt8.ofNat b] = [] → _), HO1, HB1⟩, by simp [intOf]; omega⟩
    · have HN : Hid (unesc (ll x) = none) := rdT_out HT.out (by omega)
      go_wp2_with fail
      refine bodyPost_ret (v := .tuple #[(.agg #[.int .i64 (0), .int .i64 (0), .string (⟨#[]⟩)]), .string ⟨#[]⟩, .bool false]) (by simp [results, Try.results61, go_sem, *]) rfl ⟨.inr ⟨HN.out, rfl⟩, ?_⟩; exact (((zbelow HB.out).setCell (by simp <;> omega) _).setCell (by simp <;> omega) _).setCell (by simp <;> omega) _
end Go.Proofs.Ythimnpobcfkghaa
