/-
  Bytes that are laid where there is room: no bound but the row's own. bin.Text over the form's whole reach.
-/
import Derived.Test.YtlmpokkpkglbfaaPut
import Derived.Deep.DeepAppendRoom
namespace Go.Proofs.Ytlmpokkpkglbfaa
open Go.ChangeShapes Go.WideShapes Go.ChangeAt Go.RowKit Go.Deep
set_option linter.unusedVariables false
section
variable {P : Program}
theorem wpList_append_spare {w : World} {ops : Array Oper} {rest : List Oper} {o : Oper} {a : Act} {Q : Exit → Act → World → Prop} (hgd : o.guard = none) (s x : Operand) (t : TypeId)
    (ho : o.op = .call { callee := .builtin .append, args := #[s, x], argTypes := #[t, t] })
    (base : Nat) (e : TypeId) (ht : P.underlying t = some (.slice e)) (hinfo : (P.info? e).map (fun i => (i.zero, i.size, i.bytes)) = some (some (.int .u8 0), 1, 1))
    (g n cap : Nat) (xs : List UInt8) (hs : a.eval s = .slice (some ⟨g, 0, none⟩) n cap) (hn : n = xs.length) (hown : Own w base e (.slice (some ⟨g, 0, none⟩) n cap) xs)
    (y : Value) (l zs : List UInt8) (m : Nat) (hx : a.eval x = y) (hy : Has w y l) (hm : l.length = m) (hm0 : 0 < m) (hzs : zs = xs ++ l) (hroom : n + m ≤ cap) (hbase : base ≤ w.heap.size) (w0 : World) (hb : Below base w0 w)
    (h : ∀ w', Own w' base e (.slice (some ⟨g, 0, none⟩) (n + m) cap) zs → Below base w0 w' → wpList P ops Q rest (a.put o.dst (.slice (some ⟨g, 0, none⟩) (n + m) cap)) w') : wpList P ops Q (o :: rest) a w := by
  obtain ⟨i, hi, hz, hz1, hz2⟩ := info_parts hinfo
  subst hzs; subst hn; subst hm
  rcases hy with ⟨rfl, rfl⟩ | ⟨b, off, c, rfl, _, _, _, hc⟩
  · exact absurd hm0 (Nat.lt_irrefl _)
  · refine wpList_append_own_spare w hgd s x t ho base e i 1 ht hi hz1 g xs.length cap (Lib.byteCells xs) hs hown ⟨b, off, none⟩ l.length c (Lib.byteCells l) hx (by rw [Lib.byteCells_length, Nat.mul_one]) (cells_at hc) (Lib.byteCells_one l) hroom
      fun w' h1 h2 => h w' ?_ (hb.grown h2 hbase (fun k hk => (hown.lt k hk).1))
    unfold Own
    rw [List.length_append, Lib.byteCells_append]
    exact h1
theorem wpList_append_str_spare {w : World} {ops : Array Oper} {rest : List Oper} {o : Oper} {a : Act} {Q : Exit → Act → World → Prop} (hgd : o.guard = none) (s x : Operand) (t u : TypeId)
    (ho : o.op = .call { callee := .builtin .append, args := #[s, x], argTypes := #[t, u] })
    (base : Nat) (e : TypeId) (ht : P.underlying t = some (.slice e)) (hu : P.underlying u = some .string) (hinfo : (P.info? e).map (fun i => (i.zero, i.size, i.bytes)) = some (some (.int .u8 0), 1, 1))
    (g n cap : Nat) (xs : List UInt8) (hs : a.eval s = .slice (some ⟨g, 0, none⟩) n cap) (hn : n = xs.length) (hown : Own w base e (.slice (some ⟨g, 0, none⟩) n cap) xs)
    (y : ByteArray) (zs : List UInt8) (hx : a.eval x = .string y) (hzs : zs = xs ++ y.data.toList) (hroom : n + y.size ≤ cap) (w0 : World) (hb : Below base w0 w)
    (h : ∀ w', Own w' base e (.slice (some ⟨g, 0, none⟩) (n + y.size) cap) zs → Below base w0 w' → wpList P ops Q rest (a.put o.dst (.slice (some ⟨g, 0, none⟩) (n + y.size) cap)) w') : wpList P ops Q (o :: rest) a w := by
  obtain ⟨i, hi, hz, hz1, hz2⟩ := info_parts hinfo
  subst hzs; subst hn
  obtain ⟨hx1, hr⟩ := id hown
  rcases hr with ⟨hv, _⟩ | ⟨g', cap', cur, hv, hg, hh, h1, h2, h3, h4⟩
  · cases hv
  · simp only [Value.slice.injEq, Option.some.injEq, Addr.mk.injEq, and_true, true_and] at hv
    obtain ⟨rfl, rfl⟩ := hv
    have hl : (Lib.byteCells xs).length = xs.length := Lib.byteCells_length xs
    have hs1 : (Lib.strCells y).length = y.size := Lib.strCells_length y
    have hrun := Lib.run_append_room_string (P := P) w t u o.type e i ht hu hi hz1 g xs.length cap cur hh y hroom (by omega)
    refine wpList_plain hgd fun K hK => ?_
    unfold Oper.wp execOp
    simp only [ho, resolve, invoke, builtin, Sem.run_bind, Sem.run_pure, Result.andThen_ok, List.map_toArray, List.map_cons, List.map_nil, hs, hx, hrun]
    refine hK _ _ (h _ ⟨?_, .inr ⟨g, cap, _, by rw [List.length_append, Array.length_toList]; rfl, hg, setRow_heap w g cur _ e _ hh, by rw [List.length_append, Array.length_toList]; exact hroom, h2, ?_, ?_⟩⟩ (hb.grown (row := some g) ⟨rfl, rfl, rfl, by simp, fun k _ hk => setRow_other w g k _ (fun e => hk (by simp [e]))⟩ ?_ ?_))
    · rw [Lib.byteCells_length, Nat.mul_one]
    · simp only [List.size_toArray, List.length_append, List.length_take, List.length_drop, Array.length_toList, hs1]
      omega
    · rw [Nat.mul_one] at h4
      have h5 : cur.toList.take xs.length = Lib.byteCells xs := h4
      have e1 : (xs ++ y.data.toList).length = xs.length + y.size := by rw [List.length_append]; rfl
      rw [Lib.byteCells_append, e1, Nat.mul_one]
      show List.take (xs.length + y.size) (List.take xs.length cur.toList ++ Lib.strCells y ++ List.drop (xs.length + y.size) cur.toList) = Lib.byteCells xs ++ Lib.strCells y
      rw [h5]
      have e2 : xs.length + y.size = (Lib.byteCells xs ++ Lib.strCells y).length := by rw [List.length_append, hl, hs1]
      rw [e2]
      exact List.take_left
    · have := lt_of_block hh; omega
    · intro k hk; cases hk; exact hg
end
theorem Own.at {w : World} {B : Nat} {e : TypeId} {g n cap : Nat} {l : List UInt8} (h : Own w B e (.slice (some ⟨g, 0, none⟩) n cap) l) : n = l.length := by
  rcases h.2 with ⟨hv, _⟩ | ⟨_, _, _, hv, _⟩
  · cases hv
  · simp only [Value.slice.injEq] at hv; exact hv.2.1

set_option maxRecDepth 100000 in
set_option maxHeartbeats 1000000 in
theorem put_room (B x : Nat) (hx : x < 18446744073709551616) (g cap n : Nat) (xs : List UInt8) (w : World) (hown : Own w B 5 (.slice (some ⟨g, 0, none⟩) n cap) xs) (hBw : B ≤ w.heap.size) (hroom : n + 10 ≤ cap) (hcap : cap ≤ 281474976710656) :
    Calls Try.prog 25 #[.slice (some ⟨g, 0, none⟩) n cap, .int .u64 x] w fun e w' => ∃ n', e = .returned (.slice (some ⟨g, 0, none⟩) n' cap) ∧ Own w' B 5 (.slice (some ⟨g, 0, none⟩) n' cap) (xs ++ Lib.uvarint x) ∧ Below B w w' := by
  have hlen := uv_len hx
  have hnx := hown.at
  have HNX := Lib.hid hnx
  clear hx hnx
  go_enter Try.func25, Try.ntmps25
  go_wp2
  go_loopw [0, 1] (fun vb vx wr => ∃ (y : Nat) (pre : List UInt8) (k : Nat), vx = .int .u64 y ∧ y ≤ x ∧ Lib.uvarint x = pre ++ Lib.uvarint y ∧ vb = .slice (some ⟨g, 0, none⟩) k cap ∧ Own wr B 5 (.slice (some ⟨g, 0, none⟩) k cap) (xs ++ pre) ∧ Below B w wr) (fun _ vx _ => (intOf vx).toNat)
  case atStart => exact ⟨x, [], n, rfl, Nat.le_refl _, rfl, rfl, by rw [List.append_nil]; exact hown, Below.refl _ _⟩
  case round =>
    obtain ⟨y, pre, k, rfl, hy, hsplit, rfl, hown1, hnx⟩ := hrel
    have hpl : pre.length + (Lib.uvarint y).length ≤ 10 := by
      have h2 := congrArg List.length hsplit
      rw [List.length_append] at h2
      omega
    have hyp := Lib.uvarint_pos y
    have hkl := hown1.at
    rw [List.length_append] at hkl
    have hnn := HNX.out
    have hkc : k + 1 ≤ cap := by omega
    have HK := Lib.hid hkl
    have HS := Lib.hid hsplit
    have HO := Lib.hid hown1
    have HN := Lib.hid hnx
    have hsz := hnx.size
    clear hsplit hown1 hnx hown hkl hnn
    by_cases h128 : 128 ≤ y
    · have hor : bits .or .u8 ((y : Int) % 256) 128 = (y : Int) % 128 + 128 := by
        rw [Lib.u8_or128_any _ (by omega) (by omega)]
        omega
      obtain ⟨zs, hzs⟩ : ∃ zs, zs = (xs ++ pre) ++ [(y % 128 + 128).toUInt8] := ⟨_, rfl⟩
      have HZ := Lib.hid hzs
      clear hzs
      go_wp2_with (at_builtin; refine wpList_append_spare rfl (.tmp 7) (.tmp 11) 25 rfl B 5 Try.underlying25 info_u8 g k cap (xs ++ pre) rfl (by rw [List.length_append]; exact HK.out) (HO.out.alloc _) _ [(y % 128 + 128).toUInt8] zs 1 rfl (has_one _ _ (y % 128 + 128) _ (by omega) (by omega)) rfl Nat.zero_lt_one HZ.out hkc (by simp; omega) w (HN.out.alloc (by omega) _) ?_)
      intro w1 ho hb
      have HO1 := Lib.hid ho
      have HB1 := Lib.hid hb
      clear ho hb
      go_wp2
      go_roundw
      case rel => exact ⟨y / 128, pre ++ [(y % 128 + 128).toUInt8], k + 1, by go_num, by omega, by rw [HS.out, Lib.uvarint_big h128]; simp, rfl, by rw [← List.append_assoc, ← HZ.out]; exact HO1.out, HB1.out⟩
      case measure => simp [intOf]; omega
    · have hsm : Hid (Lib.uvarint y = [y.toUInt8]) := Lib.hid (Lib.uvarint_small (by omega))
      obtain ⟨zs, hzs⟩ : ∃ zs, zs = (xs ++ pre) ++ [y.toUInt8] := ⟨_, rfl⟩
      have HZ := Lib.hid hzs
      clear hzs
      go_wp2_with (at_builtin; refine wpList_append_spare rfl (.tmp 15) (.tmp 18) 25 rfl B 5 Try.underlying25 info_u8 g k cap (xs ++ pre) rfl (by rw [List.length_append]; exact HK.out) (HO.out.alloc _) _ [y.toUInt8] zs 1 rfl (has_one _ _ y _ (by omega) (by omega)) rfl Nat.zero_lt_one HZ.out hkc (by simp; omega) w (HN.out.alloc (by omega) _) ?_)
      intro w1 ho hb
      have HO1 := Lib.hid ho
      have HB1 := Lib.hid hb
      clear ho hb
      go_wp2
      go_ret
      exact ⟨k + 1, rfl, by rw [HS.out, hsm.out, ← List.append_assoc, ← HZ.out]; exact HO1.out, HB1.out⟩

theorem Text_room (s : ByteArray) (v : Value) (l : List UInt8) (w : World) (hv : Has w v l) (hlim : l.length + s.size + 10 ≤ 281474976710656) :
    Calls Try.prog 18 #[v, .string s] w fun e w' => ∃ v', e = .returned v' ∧ Own w' w.heap.size 5 v' (l ++ (Lib.uvarint s.size ++ s.data.toList)) ∧ Below w.heap.size w w' := by
  obtain ⟨p, cap, rfl, hc1, hc2⟩ := hv.form
  have HV := Lib.hid hv
  unfold maxLen at hc2
  clear hv
  have hu : (Lib.uvarint s.size).length ≤ 10 := uv_len (by omega)
  obtain ⟨zz, hzz⟩ : ∃ zz, zz = (l ++ Lib.uvarint s.size) ++ s.data.toList := ⟨_, rfl⟩
  have HZ := Lib.hid hzz
  clear hzz
  go_enter Try.func18, Try.ntmps18
  go_wp2_with (at_make; refine wpList_make_part rfl _ _ 25 rfl w.heap.size 5 Try.underlying25 info_u8 _ _ _ _ l.length (l.length + 10 + s.size) rfl rfl rfl (by omega) (by omega) (by omega) (Nat.le_refl _) w (Below.refl _ _) ?_)
  intro zs w1 hz ho hb
  have HO := Lib.hid ho
  have HB := Lib.hid hb
  clear ho hb
  go_wp2_with ((refine wpList_copy_has rfl (.tmp 15) (.tmp 16) 25 25 rfl w.heap.size 5 Try.underlying25 info_u8 _ _ l rfl _ rfl zs HO.out _ rfl (HV.out.below HB.out) w HB.out ?_))
  intro w2 ho hb
  have HO2 := Lib.hid ho
  have HB2 := Lib.hid hb
  have hsz := hb.size
  clear ho hb
  go_wp2_with fail
  refine (put_room w.heap.size s.size (by omega) _ _ _ l w2 HO2.out hsz (by omega) (by omega)).mono ?_
  rintro e w3 ⟨n', rfl, h1, h2⟩
  have hn' := h1.at
  rw [List.length_append] at hn'
  have hroom : n' + s.size ≤ l.length + 10 + s.size := by omega
  have HN' := Lib.hid h1.at
  have HO3 := Lib.hid h1
  have HB3 := Lib.hid (HB2.out.trans h2)
  have hsz3 := h2.size
  clear h1 h2 hn'
  go_wp2_with (at_builtin; refine wpList_append_str_spare rfl (.tmp 22) (.tmp 23) 25 9 rfl w.heap.size 5 Try.underlying25 Try.underlying9 info_u8 _ _ _ (l ++ Lib.uvarint s.size) rfl HN'.out HO3.out s zz rfl HZ.out hroom w HB3.out ?_)
  intro w4 ho hb
  have HO4 := Lib.hid ho
  have HB4 := Lib.hid hb
  clear ho hb
  go_wp2
  go_ret
  exact ⟨_, rfl, by rw [← List.append_assoc, ← HZ.out]; exact HO4.out, HB4.out⟩
end Go.Proofs.Ytlmpokkpkglbfaa
