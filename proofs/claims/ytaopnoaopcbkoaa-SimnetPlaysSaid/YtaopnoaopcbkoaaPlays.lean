/-
  Both networks side by side: what stands between two calls.
-/
import Derived.Test.YtaopnoaopcbkoaaNetIs
import Derived.Test.YtaopnoaopcbkoaaTexts
import Derived.Test.YtaopnoaopcbkoaaBuf
namespace Go.Proofs.Ytaopnoaopcbkoaa
open Go.ChangeShapes Go.WideShapes Go.ChangeAt Go.RowKit Go.Deep
set_option linter.unusedVariables false

theorem text_lenB (s : ByteArray) : s.data.toList.length = s.size := by rw [Array.length_toList]; rfl
/-- What is so of a network behind at most i calls. -/
structure Fine (N : NetV) (i : Nat) : Prop where
  sorted : Sorted N.wait
  sent : N.sent ≤ i
  wait : N.wait.length ≤ i
  ids : ∀ p ∈ N.wait, p.id ≤ N.sent
  data : ∀ p ∈ N.wait, p.data.length ≤ 140737488351232
  now : 0 ≤ N.now ∧ N.now ≤ 1152921504606846976
  fed : FedOk N
  fedl : N.fed.length ≤ i
theorem Fine.zero : Fine zeroNet 0 := ⟨List.Pairwise.nil, Nat.le_refl _, Nat.le_refl _, fun p hp => (nomatch hp), fun p hp => (nomatch hp), ⟨by decide, by decide⟩, ⟨by decide, fun v hv => (nomatch hv)⟩, Nat.le_refl _⟩
theorem Fine.up {N : NetV} {i : Nat} (h : Fine N i) : Fine N (i + 1) := ⟨h.sorted, Nat.le_succ_of_le h.sent, Nat.le_succ_of_le h.wait, h.ids, h.data, h.now, h.fed, Nat.le_succ_of_le h.fedl⟩
theorem Fine.send {N : NetV} {i : Nat} (h : Fine N i) (fr to : Int) (l : List UInt8) (hl : l.length ≤ 140737488351232) : Fine (sendV N fr to l) (i + 1) := by
  refine ⟨?_, Nat.succ_le_succ h.sent, ?_, ?_, ?_, h.now, h.fed, Nat.le_succ_of_le h.fedl⟩
  · show (N.wait ++ [_]).Pairwise _
    rw [List.pairwise_append]
    refine ⟨h.sorted, List.pairwise_singleton _ _, fun a ha b hb => ?_⟩
    rw [List.mem_singleton] at hb
    subst hb
    exact Nat.lt_succ_of_le (h.ids a ha)
  · show (N.wait ++ [_]).length ≤ _
    rw [List.length_append]
    exact Nat.succ_le_succ h.wait
  · intro p hp
    rcases List.mem_append.1 hp with hp | hp
    · exact Nat.le_succ_of_le (h.ids p hp)
    · rw [List.mem_singleton] at hp
      subst hp
      exact Nat.le_refl _
  · intro p hp
    rcases List.mem_append.1 hp with hp | hp
    · exact h.data p hp
    · rw [List.mem_singleton] at hp
      subst hp
      exact hl
theorem Fine.take {N : NetV} {i : Nat} (h : Fine N i) (t : Int) : Fine (takeV N t) (i + 1) :=
  ⟨without_sorted t h.sorted, Nat.le_succ_of_le h.sent, Nat.le_succ_of_le (Nat.le_trans (List.length_filter_le _ _) h.wait), fun p hp => h.ids p (List.mem_filter.1 hp).1, fun p hp => h.data p (List.mem_filter.1 hp).1, h.now, h.fed, Nat.le_succ_of_le h.fedl⟩
theorem Fine.tick {N : NetV} {i : Nat} (h : Fine N i) (d : Int) : Fine (tickV N d) (i + 1) := by
  unfold tickV
  split
  · rename_i ht
    exact ⟨h.sorted, Nat.le_succ_of_le h.sent, Nat.le_succ_of_le h.wait, h.ids, h.data, ⟨by have := h.now.1; have := ht.1; show 0 ≤ N.now + d; omega, by have := ht.2; show N.now + d ≤ _; omega⟩, h.fed, Nat.le_succ_of_le h.fedl⟩
  · exact h.up
theorem Fine.feed {N : NetV} {i : Nat} (h : Fine N i) (y : Nat) (hy : y < 18446744073709551616) : Fine { N with fed := N.fed ++ [y] } (i + 1) := by
  refine ⟨h.sorted, Nat.le_succ_of_le h.sent, Nat.le_succ_of_le h.wait, h.ids, h.data, h.now, ⟨h.fed.1, fun v hv => ?_⟩, ?_⟩
  · rcases List.mem_append.1 hv with hv | hv
    · exact h.fed.2 v hv
    · rw [List.mem_singleton] at hv
      subst hv
      exact hy
  · show (N.fed ++ [y]).length ≤ _
    rw [List.length_append]
    exact Nat.succ_le_succ h.fedl
theorem Fine.rand {N : NetV} {i : Nat} (h : Fine N i) : Fine (randV N) (i + 1) := by
  have h1 := h.fed
  have h2 := h.fedl
  unfold randV
  split
  · rename_i v r he
    refine ⟨h.sorted, Nat.le_succ_of_le h.sent, Nat.le_succ_of_le h.wait, h.ids, h.data, h.now, ⟨h1.1, fun v hv => h1.2 v (by rw [he]; exact List.mem_cons_of_mem _ hv)⟩, ?_⟩
    rw [he, List.length_cons] at h2
    show r.length ≤ _
    omega
  · exact ⟨h.sorted, Nat.le_succ_of_le h.sent, Nat.le_succ_of_le h.wait, h.ids, h.data, h.now, ⟨Nat.mod_lt _ (by decide), h1.2⟩, Nat.le_succ_of_le h2⟩

/-- Both networks hold the same, in memory of their own. -/
structure Pair (w : World) (B R B' S : Nat) (N : NetV) (F G : Nat → Prop) : Prop where
  net : Net w B R N F
  ref : Ref.Net w B' S N G
  apart : ∀ k, F k → ¬ G k
theorem Pair.below {w w' : World} {B R B' S : Nat} {N : NetV} {F G : Nat → Prop} (h : Pair w B R B' S N F G) (hb : Below w.heap.size w w') : Pair w' B R B' S N F G := ⟨h.net.below hb, h.ref.below hb, h.apart⟩
theorem Net.own {w : World} {B R : Nat} {N : NetV} {F : Nat → Prop} (h : Net w B R N F) : ∀ k, F k → B ≤ k ∧ k < w.heap.size := by obtain ⟨_, _, _, _, hF, _⟩ := h; exact hF
theorem Ref.Net.own {w : World} {B R : Nat} {N : NetV} {F : Nat → Prop} (h : Ref.Net w B R N F) : ∀ k, F k → B ≤ k ∧ k < w.heap.size := by obtain ⟨_, _, _, _, hF, _⟩ := h; exact hF
/-- A block that neither holds is written. -/
theorem Pair.stay {w w' : World} {B R B' S : Nat} {N : NetV} {F G : Nat → Prop} (h : Pair w B R B' S N F G) (hs : w.heap.size ≤ w'.heap.size) (hb : ∀ k, k < w.heap.size → F k ∨ G k → w'.heap[k]? = w.heap[k]?) : Pair w' B R B' S N F G :=
  ⟨h.net.stay hs (fun k hk hF => hb k hk (.inl hF)), h.ref.stay hs (fun k hk hG => hb k hk (.inr hG)), h.apart⟩
/-- The first one goes on. -/
theorem Pair.first {w w' : World} {B R B' S : Nat} {N N' : NetV} {F F' G : Nat → Prop} (h : Pair w B R B' S N F G) (hn : Net w' B R N' F') (hk : Keeps F w w') (hF : ∀ k, k < w.heap.size → F' k → F k) : Net w' B R N' F' ∧ Ref.Net w' B' S N G ∧ ∀ k, F' k → ¬ G k :=
  ⟨hn, h.ref.other hk (fun k hG hF' => h.apart k hF' hG), fun k h1 h2 => h.apart k (hF k (h.ref.own k h2).2 h1) h2⟩
/-- The second one follows. -/
theorem Pair.second {w w' : World} {B R B' S : Nat} {N N' : NetV} {F G G' : Nat → Prop} (hn : Net w B R N' F) (hr : Ref.Net w B' S N G) (ha : ∀ k, F k → ¬ G k) (hr' : Ref.Net w' B' S N' G') (hk : Keeps G w w') (hG : ∀ k, k < w.heap.size → G' k → G k) : Pair w' B R B' S N' F G' :=
  ⟨hn.other hk (fun k hF => ha k hF), hr', fun k h1 h2 => ha k h1 (hG k (hn.own k h1).2 h2)⟩
theorem ref_new (w : World) : Ref.Net (w.alloc (.cells #[.slice none 0 0, .int .i64 0, .int .i64 0, .slice none 0 0, .int .u64 0] 42 (0, 0))) w.heap.size w.heap.size zeroNet (fun k => k = w.heap.size) := by
  have hh := heap_alloc_new w (.cells #[.slice none 0 0, .int .i64 0, .int .i64 0, .slice none 0 0, .int .u64 0] 42 (0, 0))
  exact ⟨_, _, hh, rfl, fun k hk => by subst hk; exact ⟨Nat.le_refl _, lt_of_block hh⟩, ⟨[], rfl, World.ownsRow_nil _ _ _ _, fun g h => by simp [Value.ownBlock] at h, fun p hp => by simp at hp⟩, ⟨none, 0, rfl, Nat.le_refl _, Nat.zero_le _, fun h => absurd h (Nat.lt_irrefl _)⟩⟩
/-- The call that is made, as it was copied. -/
def XAt (w : World) (g : Nat) (o a b : Int) (s : ByteArray) : Prop := w.heap[g]? = some (.cells #[.int .i64 o, .int .i64 a, .int .i64 b, .string s] 44 (0, 0))
theorem XAt.cells {w : World} {g : Nat} {o a b : Int} {s : ByteArray} (h : XAt w g o a b s) : w.cell? ⟨g, 0, none⟩ = some (.int .i64 o) ∧ w.cell? ⟨g, 1, none⟩ = some (.int .i64 a) ∧ w.cell? ⟨g, 2, none⟩ = some (.int .i64 b) ∧ w.cell? ⟨g, 3, none⟩ = some (.string s) := by
  unfold XAt at h
  exact ⟨by simp [World.cell?, h], by simp [World.cell?, h], by simp [World.cell?, h], by simp [World.cell?, h]⟩
theorem XAt.same {w w' : World} {g : Nat} {o a b : Int} {s : ByteArray} (h : XAt w g o a b s) (hh : w'.heap[g]? = w.heap[g]?) : XAt w' g o a b s := hh.trans h
theorem pk_block {w : World} {g : Nat} {a b c d : Value} {T : TypeId} (h : w.heap[g]? = some (.cells #[a, b, c, d] T (0, 0))) : w.cell? ⟨g, 0, none⟩ = some a ∧ w.cell? ⟨g, 1, none⟩ = some b ∧ w.cell? ⟨g, 2, none⟩ = some c ∧ w.cell? ⟨g, 3, none⟩ = some d :=
  ⟨by simp [World.cell?, h], by simp [World.cell?, h], by simp [World.cell?, h], by simp [World.cell?, h]⟩
theorem conv_block (w : World) (e : TypeId) (s : ByteArray) (hs : s.size ≤ 140737488351232) : ∃ C f, (Lib.bytesWorld w e s).heap[w.heap.size]? = some (.cells C e f) ∧ C.size ≤ f.1 ∧ C.size = grownCap w s.size 0 e ∧ grownCap w s.size 0 e ≤ maxLen ∧
    ∀ j (h : j < s.data.toList.length), (Lib.bytesWorld w e s).cell? ⟨w.heap.size, j, none⟩ = some (.int .u8 (s.data.toList[j].toNat : Int)) := by
  have hl : s.data.toList.length = s.size := by rw [Array.length_toList]; rfl
  have hge := grownCap_ge w s.size 0 e
  refine ⟨_, _, Lib.bytesWorld_at_new w e s, Nat.le_refl _, ?_, grownCap_le_maxLen w s.size 0 e (by unfold maxLen; omega), fun j hj => ?_⟩
  · have h1 : s.data.size = s.size := rfl
    simp only [Lib.bytesCells, Array.size_append, Array.size_map, Array.size_replicate, h1]
    omega
  · rw [Lib.bytesWorld_cell w e s j (by omega), List.getD_eq_getElem?_getD, List.getElem?_eq_getElem hj]
    rfl
theorem u64_nat (x : Int) : ∃ y : Nat, IntKind.u64.wrap x = (y : Int) ∧ y < 18446744073709551616 := by
  have h : IntKind.u64.wrap x = x % 18446744073709551616 := by
    simp [IntKind.wrap, IntKind.bits, IntKind.signed]
  have h1 := Int.emod_nonneg x (show (18446744073709551616 : Int) ≠ 0 by decide)
  have h2 := Int.emod_lt_of_pos x (show (0 : Int) < 18446744073709551616 by decide)
  refine ⟨(x % 18446744073709551616).toNat, ?_, ?_⟩
  · rw [h, Int.toNat_of_nonneg h1]
  · omega
theorem run_head (g n m cap : Nat) (h1 : n ≤ cap) (W : World) : (Instr.slice 25 (.slice (some ⟨g, 0, none⟩) m cap) none (some (.int .i64 (n : Int))) none).run Try.prog W = .ok (.slice (some ⟨g, 0, none⟩) n cap) W := by
  rw [run_slice_h (P := Try.prog) (w := W) (t := 25) (a := some ⟨g, 0, none⟩) (len := m) (cap := cap) Try.underlying25 .i64 (n : Int) (by omega) (by omega), size_one]
  simp only [Result.andThen, sliced, Int.toNat_natCast, Nat.sub_zero, Nat.zero_mul]
  congr 2
  split
  · rfl
  · simp [add_plain]
theorem HasA.buf {w : World} {e : TypeId} {g m n cap : Nat} {l : List UInt8} (h : Buf w e g m) (hn : n = l.length) (h1 : n ≤ cap) (h2 : cap ≤ maxLen) (hc : ∀ j (h : j < l.length), w.cell? ⟨g, j, none⟩ = some (.int .u8 (l[j].toNat : Int))) : HasA w (.slice (some ⟨g, 0, none⟩) n cap) l := by
  subst hn
  exact ⟨_, cap, g, 0, rfl, h1, h2, fun _ => ⟨rfl, h.lt⟩, fun j hj => by rw [Nat.zero_add]; exact hc j hj⟩
/-- Both have sent, and the bytes that were handed over may be written into. -/
def SentBoth (w : World) (B R B' S i g m : Nat) (wx : World) : Prop := ∃ N F G, Pair wx B R B' S N F G ∧ Fine N i ∧ Below w.heap.size w wx ∧ B' ≤ wx.heap.size ∧ Buf wx 5 g m ∧ ¬ F g ∧ ¬ G g
/-- Where it stands behind a call. -/
def Stands (w : World) (B R B' S i : Nat) (wx : World) : Prop := ∃ N F G, Pair wx B R B' S N F G ∧ Fine N i ∧ Below w.heap.size w wx ∧ B' ≤ wx.heap.size
end Go.Proofs.Ytaopnoaopcbkoaa
