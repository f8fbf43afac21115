/-
  The walk of the law BinLays.
-/
import Derived.Test.YtlmpokkpkglbfaaBinAwake
import Derived.Test.YtlmpokkpkglbfaaGet2
import Derived.Test.YtlmpokkpkglbfaaRefLay
import Derived.Deep.RegionHeld3
namespace Go.Proofs.Ytlmpokkpkglbfaa.binLays
open Go.ChangeShapes Go.WideShapes Go.ChangeAt Go.RowKit Go.Deep
set_option linter.unusedVariables false
set_option linter.unusedSimpArgs false

/-- What the comparison reads. -/
def LayS (w : World) (v X Y Z : Value) (l lx ly lz : List UInt8) : Prop := HasA w v l ∧ Has w X lx ∧ Has w Y ly ∧ Has w Z lz
theorem LayS.below {w w' : World} {v X Y Z : Value} {l lx ly lz : List UInt8} (h : LayS w v X Y Z l lx ly lz) (hb : Below w.heap.size w w') : LayS w' v X Y Z l lx ly lz :=
  ⟨h.1.below hb, h.2.1.below hb, h.2.2.1.below hb, h.2.2.2.below hb⟩
theorem str_of {w : World} {X : Value} {l : List UInt8} (h : Has w X l) (A : ByteArray) (hA : A = ⟨l.toArray⟩) : (convert 25 9 X).run Try.prog w = .ok (.string A) w := by
  subst hA; exact h.string Try.underlying25 Try.underlying5 Try.underlying9
theorem strA_of {w : World} {X : Value} {l : List UInt8} (h : HasA w X l) (A : ByteArray) (hA : A = ⟨l.toArray⟩) : (convert 25 9 X).run Try.prog w = .ok (.string A) w := by
  subst hA; exact h.string 0
theorem cat {P : Program} {w : World} {A B C : ByteArray} {a b : List UInt8} (hA : A = ⟨a.toArray⟩) (hB : B = ⟨b.toArray⟩) (hC : C = ⟨(a ++ b).toArray⟩) (h : a.length + b.length ≤ 9223372036854775807) : (Op.stringOp .add A B).run P w = .ok (.string C) w := by
  subst hA; subst hB; subst hC
  have h2 := run_string_add_sum (P := P) (w := w) ⟨a.toArray⟩ ⟨b.toArray⟩ (by show a.toArray.size + b.toArray.size ≤ _; simpa using h)
  rw [h2]
  have e : (⟨a.toArray⟩ ++ ⟨b.toArray⟩ : ByteArray) = ⟨(a ++ b).toArray⟩ := by
    apply ByteArray.ext
    simp
  rw [e]

set_option maxRecDepth 100000 in
set_option maxHeartbeats 2000000 in
theorem walk0 (v : Value) (l : List UInt8) (x : Nat) (s : ByteArray) (w : World) (hx : x < 18446744073709551616) (hv : HasA w v l) (hl : l.length ≤ 140737488351232) (hs : s.size ≤ 140737488351232) :
    Calls Try.prog 4 #[v, .int .u64 x, .string s] w fun e w' => e = .returned (.bool true) ∧ Below w.heap.size w w' := by
  have HV := Lib.hid hv
  obtain ⟨p0, cap0, b0, o0, rfl, hk1, hk2, hk3, hkc⟩ := hv
  clear hk1 hk2 hk3 hkc
  go_enter Try.func4, Try.ntmps4
  go_wp2_with fail
  refine (awake w).mono ?_
  rintro e w0 ⟨rfl, hb⟩
  have HB := Lib.hid hb
  have hs0 := hb.size
  have hk1 : (convert 25 9 (.slice p0 l.length cap0)).run Try.prog w0 = .ok (.string ⟨l.toArray⟩) w0 := (HV.out.below hb).string 0
  have hk2 := Lib.run_convert_string_bytes (P := Try.prog) w0 9 25 5 ⟨l.toArray⟩ Try.underlying9 Try.underlying25 Try.underlying5
  have hsz : (⟨l.toArray⟩ : ByteArray).size = l.length := rfl
  rw [hsz] at hk2
  have hcapge : l.length ≤ grownCap w0 l.length 0 5 := grownCap_ge _ _ _ _
  have hcaple : grownCap w0 l.length 0 5 ≤ maxLen := grownCap_le_maxLen _ _ _ _ (by unfold maxLen; omega)
  have hbs := Lib.bytesWorld_size w0 5 ⟨l.toArray⟩
  have hcells : ∀ j (h : j < l.length), (Lib.bytesWorld w0 5 ⟨l.toArray⟩).cell? ⟨w0.heap.size, j, none⟩ = some (.int .u8 (l[j].toNat : Int)) := fun j hj => by
    rw [Lib.bytesWorld_cell w0 5 ⟨l.toArray⟩ j hj]
    simp [List.getD, hj]
  have hblk := Lib.bytesWorld_at_new w0 5 ⟨l.toArray⟩
  have hbc : (Lib.bytesCells w0 5 ⟨l.toArray⟩).size = grownCap w0 l.length 0 5 := by
    have h0 : l.length ≤ grownCap w0 l.length 0 5 := hcapge
    unfold Lib.bytesCells
    simp only [Array.size_append, Array.size_replicate, Array.size_map, List.size_toArray, hsz]
    omega
  have hbw : Below w0.heap.size w0 (Lib.bytesWorld w0 5 ⟨l.toArray⟩) := ⟨rfl, rfl, rfl, by rw [hbs]; omega, fun k hk => Lib.bytesWorld_at_old w0 5 ⟨l.toArray⟩ k hk⟩
  generalize hW1 : Lib.bytesWorld w0 5 ⟨l.toArray⟩ = W1 at hk2 hbs hcells hblk hbw
  generalize hC1 : grownCap w0 l.length 0 5 = C1 at hk2 hcapge hcaple hbc
  generalize hCC : Lib.bytesCells w0 5 ⟨l.toArray⟩ = CC at hblk hbc
  have HCells := Lib.hid hcells
  have HBlk := Lib.hid hblk
  have HBC := Lib.hid hbc
  have HB1 := Lib.hid (hb.trans (hbw.mono hs0))
  have hs1 : w.heap.size ≤ W1.heap.size := HB1.out.size
  have hbs' : w0.heap.size < W1.heap.size := by omega
  clear hb hcells hblk hbc hbw hW1 hC1 hCC hsz hbs
  go_wp2_with (at_builtin; refine wpList_append_mine rfl (.tmp 14) (.tmp 15) 25 rfl w.heap.size 5 Try.underlying25 info_u8 w0.heap.size _ C1 CC 5 _ l rfl rfl ((heap_alloc_old _ _ hbs').trans HBlk.out) (Nat.le_refl _) HBC.out hcaple hs0 (fun j hj => ((World.cell?_alloc_lt _ _ _ hbs').trans (HCells.out j hj))) _ [(9 : UInt8)] (l ++ [9]) 1 rfl (has_one W1 _ 9 9 (by omega) rfl) rfl Nat.zero_lt_one rfl (by simp; omega) w (HB1.out.alloc hs1 _) ?_)
  intro g3 cap3 w3 hg3 hh3 hb
  have H3 := Lib.hid hh3
  have HB3 := Lib.hid hb
  have hs3 := hb.size
  obtain ⟨_, _, hf3, hc3, hm3⟩ := hh3.form
  simp only [Value.slice.injEq] at hf3
  obtain ⟨-, hf3, rfl⟩ := hf3
  have hcg : l.length + 1 ≤ cap3 := by rw [hf3]; exact hc3
  have HP3 : Has w3 (.slice (some ⟨g3, 0, none⟩) l.length cap3) l := by
    rcases hh3 with ⟨hn, _⟩ | ⟨b, o, c, he, k1, k2, k3, k4⟩
    · cases hn
    · simp only [Value.slice.injEq, Option.some.injEq, Addr.mk.injEq, and_true] at he
      obtain ⟨⟨rfl, rfl⟩, _, rfl⟩ := he
      refine .inr ⟨g3, 0, cap3, rfl, by omega, k2, k3, fun j hj => ?_⟩
      have := k4 j (by rw [List.length_append]; omega)
      rw [this, List.getElem_append_left hj]
  have HP := Lib.hid HP3
  have hsl : ∀ W, (Instr.slice 25 (.slice (some ⟨g3, 0, none⟩) (l.length + 1) cap3) none (some (.int .i64 (l.length : Int))) none).run Try.prog W = .ok (.slice (some ⟨g3, 0, none⟩) l.length cap3) W := fun W => by
    rw [run_slice_h (P := Try.prog) (w := W) (t := 25) (a := some ⟨g3, 0, none⟩) (len := l.length + 1) (cap := cap3) Try.underlying25 .i64 (l.length : Int) (by omega) (by omega), size_one]
    have hc0 : cap3 ≠ 0 := by omega
    simp [Result.andThen, sliced, hc0, Addr.add]
  clear hb hh3 HP3 hf3 hc3 hm3 hk1 hk2 hcapge hcaple
  go_wp2_with fail
  refine (Uint_any x hx _ l w3 HP.out (by omega)).mono ?_
  rintro e w4 ⟨v4, rfl, ho, hb⟩
  have H4 := Lib.hid ho.has
  have HB4 := Lib.hid (HB3.out.trans (hb.mono hs3))
  have H34 := Lib.hid (H3.out.below hb)
  have HP4 := Lib.hid (HP.out.below hb)
  have hs4 := HB4.out.size
  clear ho hb
  go_wp2_with fail
  refine (Text_room s _ l w4 HP4.out (by omega)).mono ?_
  rintro e w5 ⟨v5, rfl, ho, hb⟩
  have HB5 := Lib.hid (HB4.out.trans (hb.mono hs4))
  have HS : LayS w5 (.slice p0 l.length cap0) v4 v5 (.slice (some ⟨g3, 0, none⟩) (l.length + 1) cap3) l (l ++ Lib.uvarint x) (l ++ (Lib.uvarint s.size ++ s.data.toList)) (l ++ [9]) :=
    ⟨HV.out.below HB5.out, H4.out.below hb, ho.has, H34.out.below hb⟩
  have hs5 := HB5.out.size
  have hu1 := uv_len hx
  have hu2 := uv_len (x := s.size) (by omega)
  have hsd : s.data.toList.length = s.size := by rw [Array.length_toList]; rfl
  clear ho hb H4 H34 HP4 HP H3 hsl
  go_wp2_with fail
  obtain ⟨A, hA⟩ : ∃ A : ByteArray, A = ⟨l.toArray⟩ := ⟨_, rfl⟩
  obtain ⟨U, hU⟩ : ∃ A : ByteArray, A = ⟨(Lib.uvarint x).toArray⟩ := ⟨_, rfl⟩
  obtain ⟨T, hT⟩ : ∃ A : ByteArray, A = ⟨(Lib.uvarint s.size ++ s.data.toList).toArray⟩ := ⟨_, rfl⟩
  obtain ⟨X, hX⟩ : ∃ A : ByteArray, A = ⟨(l ++ Lib.uvarint x).toArray⟩ := ⟨_, rfl⟩
  obtain ⟨Y, hY⟩ : ∃ A : ByteArray, A = ⟨(l ++ (Lib.uvarint s.size ++ s.data.toList)).toArray⟩ := ⟨_, rfl⟩
  obtain ⟨Z, hZ⟩ : ∃ A : ByteArray, A = ⟨(l ++ [9]).toArray⟩ := ⟨_, rfl⟩
  have h9 : (⟨#[9]⟩ : ByteArray) = ⟨[(9 : UInt8)].toArray⟩ := rfl
  have E1 := Lib.hid (fun W : World => cat (P := Try.prog) (w := W) hA hU hX (by omega))
  have E2 := Lib.hid (fun W : World => cat (P := Try.prog) (w := W) hA hT hY (by rw [List.length_append]; omega))
  have E3 := Lib.hid (fun W : World => cat (P := Try.prog) (w := W) hA h9 hZ (by simp; omega))
  have HA := Lib.hid hA
  have HU := Lib.hid hU
  have HT := Lib.hid hT
  have HX := Lib.hid hX
  have HY := Lib.hid hY
  have HZ := Lib.hid hZ
  have HS5 := Lib.hid HS
  clear hA hU hT hX hY hZ h9 HS hsd
  generalize hLX : l ++ Lib.uvarint x = lx at HX HS5
  generalize hLY : l ++ (Lib.uvarint s.size ++ s.data.toList) = ly at HY HS5
  generalize hLZ : l ++ [9] = lz at HZ HS5
  clear hLX hLY hLZ
  refine wp_region_held_drew (S := fun w' => LayS w' (.slice p0 l.length cap0) v4 v5 (.slice (some ⟨g3, 0, none⟩) (l.length + 1) cap3) l lx ly lz) (by kernel_rfl) HS5.out (fun hHeld => ?_)
  refine wpAnyH_take (i := 0) (oi := _) (v := ?_) rfl (by kernel_rfl) (by kernel_rfl) (by kernel_rfl) (fun _ _ _ h => h) (Or.inl ⟨by rfl, ?hy⟩) (by assumption) ?rest
  case hy =>
    intro w9 hSw
    try dsimp only at hSw
    try simp only [List.getElem_toArray, List.getElem_cons_zero, List.getElem_cons_succ]
    go_simp
    try with_reducible rfl
  case rest =>
    try simp only [Act.put, List.setIfInBounds_toArray, List.set_cons_zero, List.set_cons_succ, List.getElem_toArray, List.getElem_cons_zero, List.getElem_cons_succ]
    refine wpAnyH_take (i := 1) (oi := _) (v := ?_) rfl (by kernel_rfl) (by kernel_rfl) (by kernel_rfl) (fun _ _ _ h => h) (Or.inl ⟨by rfl, ?hy⟩) (by assumption) ?rest
    case hy =>
      intro w9 hSw
      try dsimp only at hSw
      try simp only [List.getElem_toArray, List.getElem_cons_zero, List.getElem_cons_succ]
      have q := str_of hSw.2.1 X HX.out
      clear hSw
      go_simp
      try with_reducible rfl
    case rest =>
      try simp only [Act.put, List.setIfInBounds_toArray, List.set_cons_zero, List.set_cons_succ, List.getElem_toArray, List.getElem_cons_zero, List.getElem_cons_succ]
      refine wpAnyH_take (i := 2) (oi := _) (v := ?_) rfl (by kernel_rfl) (by kernel_rfl) (by kernel_rfl) (fun _ _ _ h => h) (Or.inl ⟨by rfl, ?hy⟩) (by assumption) ?rest
      case hy =>
        intro w9 hSw
        try dsimp only at hSw
        try simp only [List.getElem_toArray, List.getElem_cons_zero, List.getElem_cons_succ]
        go_simp
        try with_reducible rfl
      case rest =>
        try simp only [Act.put, List.setIfInBounds_toArray, List.set_cons_zero, List.set_cons_succ, List.getElem_toArray, List.getElem_cons_zero, List.getElem_cons_succ]
        refine wpAnyH_take (i := 3) (oi := _) (v := ?_) rfl (by kernel_rfl) (by kernel_rfl) (by kernel_rfl) (fun _ _ _ h => h) (Or.inl ⟨by rfl, ?hy⟩) (by assumption) ?rest
        case hy =>
          intro w9 hSw
          try dsimp only at hSw
          try simp only [List.getElem_toArray, List.getElem_cons_zero, List.getElem_cons_succ]
          have q := strA_of hSw.1 A HA.out
          clear hSw
          go_simp
          try with_reducible rfl
        case rest =>
          try simp only [Act.put, List.setIfInBounds_toArray, List.set_cons_zero, List.set_cons_succ, List.getElem_toArray, List.getElem_cons_zero, List.getElem_cons_succ]
          refine wpAnyH_take (i := 4) (oi := _) (v := ?_) rfl (by kernel_rfl) (by kernel_rfl) (by kernel_rfl) (fun _ _ _ h => h) (Or.inl ⟨by rfl, ?hy⟩) (by assumption) ?rest
          case hy =>
            intro w9 hSw
            try dsimp only at hSw
            try simp only [List.getElem_toArray, List.getElem_cons_zero, List.getElem_cons_succ]
            go_simp
            try with_reducible rfl
          case rest =>
            try simp only [Act.put, List.setIfInBounds_toArray, List.set_cons_zero, List.set_cons_succ, List.getElem_toArray, List.getElem_cons_zero, List.getElem_cons_succ]
            refine wpAnyH_ready (rs := [5]) (by kernel_rfl) (by simp) (AllReadyH.cons (o := _) rfl (fun K hK => ?_) AllReadyH.nil)
            try simp only [List.getElem_toArray, List.getElem_cons_zero, List.getElem_cons_succ]
            go_simp
            refine (RefUint x hx _).mono ?_
            rintro e w6 ⟨v6, rfl, ho, hb⟩
            have q6 := Lib.hid (str_of ho.has U HU.out)
            have HS6 := Lib.hid (hHeld.below hb)
            have HB6 := Lib.hid (HB5.out.trans (Below.mono (show Below w5.heap.size w5 w6 from ⟨hb.os, hb.tape, hb.output, hb.size, hb.block⟩) hs5))
            clear ho hb
            refine hK.out _ _ (HS6.out) (fun hHeld => ?_)
            clear hK K
            try simp only [Act.put, List.setIfInBounds_toArray, List.set_cons_zero, List.set_cons_succ, List.getElem_toArray, List.getElem_cons_zero, List.getElem_cons_succ]
            refine wpAnyH_ready (rs := [6]) (by kernel_rfl) (by simp) (AllReadyH.cons (o := _) rfl (fun K hK => ?_) AllReadyH.nil)
            try simp only [List.getElem_toArray, List.getElem_cons_zero, List.getElem_cons_succ]
            have q := q6.out
            go_simp
            refine hK.out _ _ (HS6.out) (fun hHeld => ?_)
            clear hK K
            try simp only [Act.put, List.setIfInBounds_toArray, List.set_cons_zero, List.set_cons_succ, List.getElem_toArray, List.getElem_cons_zero, List.getElem_cons_succ]
            clear q
            refine wpAnyH_take (i := 7) (oi := _) (v := ?_) rfl (by kernel_rfl) (by kernel_rfl) (by kernel_rfl) (fun _ _ _ h => h) (Or.inl ⟨by rfl, ?hy⟩) (by assumption) ?rest
            case hy =>
              intro w9 hSw
              try dsimp only at hSw
              try simp only [List.getElem_toArray, List.getElem_cons_zero, List.getElem_cons_succ]
              have q := E1.out w9
              clear hSw
              go_simp
              try with_reducible rfl
            case rest =>
              try simp only [Act.put, List.setIfInBounds_toArray, List.set_cons_zero, List.set_cons_succ, List.getElem_toArray, List.getElem_cons_zero, List.getElem_cons_succ]
              refine wpAnyH_take (i := 8) (oi := _) (v := ?_) rfl (by kernel_rfl) (by kernel_rfl) (by kernel_rfl) (fun _ _ _ h => h) (Or.inl ⟨by rfl, ?hy⟩) (by assumption) ?rest
              case hy =>
                intro w9 hSw
                try dsimp only at hSw
                try simp only [List.getElem_toArray, List.getElem_cons_zero, List.getElem_cons_succ]
                go_simp
                try with_reducible rfl
              case rest =>
                try simp only [Act.put, List.setIfInBounds_toArray, List.set_cons_zero, List.set_cons_succ, List.getElem_toArray, List.getElem_cons_zero, List.getElem_cons_succ]
                refine wpAnyH_take (i := 9) (oi := _) (v := ?_) rfl (by kernel_rfl) (by kernel_rfl) (by kernel_rfl) (fun _ _ _ h => h) (Or.inl ⟨by rfl, ?hy⟩) (by assumption) ?rest
                case hy =>
                  intro w9 hSw
                  try dsimp only at hSw
                  try simp only [List.getElem_toArray, List.getElem_cons_zero, List.getElem_cons_succ]
                  go_simp
                  try with_reducible rfl
                case rest =>
                  try simp only [Act.put, List.setIfInBounds_toArray, List.set_cons_zero, List.set_cons_succ, List.getElem_toArray, List.getElem_cons_zero, List.getElem_cons_succ]
                  refine wpAnyH_take (i := 10) (oi := _) (v := ?_) rfl (by kernel_rfl) (by kernel_rfl) (by kernel_rfl) (fun _ _ _ h => h) (Or.inl ⟨by rfl, ?hy⟩) (by assumption) ?rest
                  case hy =>
                    intro w9 hSw
                    try dsimp only at hSw
                    try simp only [List.getElem_toArray, List.getElem_cons_zero, List.getElem_cons_succ]
                    go_simp
                    try with_reducible rfl
                  case rest =>
                    try simp only [Act.put, List.setIfInBounds_toArray, List.set_cons_zero, List.set_cons_succ, List.getElem_toArray, List.getElem_cons_zero, List.getElem_cons_succ]
                    refine wpAnyH_take (i := 11) (oi := _) (v := ?_) rfl (by kernel_rfl) (by kernel_rfl) (by kernel_rfl) (fun _ _ _ h => h) (Or.inl ⟨by rfl, ?hy⟩) (by assumption) ?rest
                    case hy =>
                      intro w9 hSw
                      try dsimp only at hSw
                      try simp only [List.getElem_toArray, List.getElem_cons_zero, List.getElem_cons_succ]
                      have q := str_of hSw.2.2.1 Y HY.out
                      clear hSw
                      go_simp
                      try with_reducible rfl
                    case rest =>
                      try simp only [Act.put, List.setIfInBounds_toArray, List.set_cons_zero, List.set_cons_succ, List.getElem_toArray, List.getElem_cons_zero, List.getElem_cons_succ]
                      refine wpAnyH_take (i := 12) (oi := _) (v := ?_) rfl (by kernel_rfl) (by kernel_rfl) (by kernel_rfl) (fun _ _ _ h => h) (Or.inl ⟨by rfl, ?hy⟩) (by assumption) ?rest
                      case hy =>
                        intro w9 hSw
                        try dsimp only at hSw
                        try simp only [List.getElem_toArray, List.getElem_cons_zero, List.getElem_cons_succ]
                        go_simp
                        try with_reducible rfl
                      case rest =>
                        try simp only [Act.put, List.setIfInBounds_toArray, List.set_cons_zero, List.set_cons_succ, List.getElem_toArray, List.getElem_cons_zero, List.getElem_cons_succ]
                        refine wpAnyH_take (i := 13) (oi := _) (v := ?_) rfl (by kernel_rfl) (by kernel_rfl) (by kernel_rfl) (fun _ _ _ h => h) (Or.inl ⟨by rfl, ?hy⟩) (by assumption) ?rest
                        case hy =>
                          intro w9 hSw
                          try dsimp only at hSw
                          try simp only [List.getElem_toArray, List.getElem_cons_zero, List.getElem_cons_succ]
                          have q := strA_of hSw.1 A HA.out
                          clear hSw
                          go_simp
                          try with_reducible rfl
                        case rest =>
                          try simp only [Act.put, List.setIfInBounds_toArray, List.set_cons_zero, List.set_cons_succ, List.getElem_toArray, List.getElem_cons_zero, List.getElem_cons_succ]
                          refine wpAnyH_take (i := 14) (oi := _) (v := ?_) rfl (by kernel_rfl) (by kernel_rfl) (by kernel_rfl) (fun _ _ _ h => h) (Or.inl ⟨by rfl, ?hy⟩) (by assumption) ?rest
                          case hy =>
                            intro w9 hSw
                            try dsimp only at hSw
                            try simp only [List.getElem_toArray, List.getElem_cons_zero, List.getElem_cons_succ]
                            go_simp
                            try with_reducible rfl
                          case rest =>
                            try simp only [Act.put, List.setIfInBounds_toArray, List.set_cons_zero, List.set_cons_succ, List.getElem_toArray, List.getElem_cons_zero, List.getElem_cons_succ]
                            refine wpAnyH_ready (rs := [15]) (by kernel_rfl) (by simp) (AllReadyH.cons (o := _) rfl (fun K hK => ?_) AllReadyH.nil)
                            try simp only [List.getElem_toArray, List.getElem_cons_zero, List.getElem_cons_succ]
                            go_simp
                            refine (RefText s hs _).mono ?_
                            rintro e w7 ⟨v7, rfl, ho, hb⟩
                            have q7 := Lib.hid (str_of ho.has T HT.out)
                            have HS7 := Lib.hid (hHeld.below hb)
                            have HB7 := Lib.hid (HB6.out.trans (hb.mono HB6.out.size))
                            clear ho hb
                            refine hK.out _ _ (HS7.out) (fun hHeld => ?_)
                            clear hK K
                            try simp only [Act.put, List.setIfInBounds_toArray, List.set_cons_zero, List.set_cons_succ, List.getElem_toArray, List.getElem_cons_zero, List.getElem_cons_succ]
                            refine wpAnyH_ready (rs := [16]) (by kernel_rfl) (by simp) (AllReadyH.cons (o := _) rfl (fun K hK => ?_) AllReadyH.nil)
                            try simp only [List.getElem_toArray, List.getElem_cons_zero, List.getElem_cons_succ]
                            have q := q7.out
                            go_simp
                            refine hK.out _ _ (HS7.out) (fun hHeld => ?_)
                            clear hK K
                            try simp only [Act.put, List.setIfInBounds_toArray, List.set_cons_zero, List.set_cons_succ, List.getElem_toArray, List.getElem_cons_zero, List.getElem_cons_succ]
                            clear q
                            refine wpAnyH_take (i := 17) (oi := _) (v := ?_) rfl (by kernel_rfl) (by kernel_rfl) (by kernel_rfl) (fun _ _ _ h => h) (Or.inl ⟨by rfl, ?hy⟩) (by assumption) ?rest
                            case hy =>
                              intro w9 hSw
                              try dsimp only at hSw
                              try simp only [List.getElem_toArray, List.getElem_cons_zero, List.getElem_cons_succ]
                              have q := E2.out w9
                              clear hSw
                              go_simp
                              try with_reducible rfl
                            case rest =>
                              try simp only [Act.put, List.setIfInBounds_toArray, List.set_cons_zero, List.set_cons_succ, List.getElem_toArray, List.getElem_cons_zero, List.getElem_cons_succ]
                              refine wpAnyH_take (i := 18) (oi := _) (v := ?_) rfl (by kernel_rfl) (by kernel_rfl) (by kernel_rfl) (fun _ _ _ h => h) (Or.inl ⟨by rfl, ?hy⟩) (by assumption) ?rest
                              case hy =>
                                intro w9 hSw
                                try dsimp only at hSw
                                try simp only [List.getElem_toArray, List.getElem_cons_zero, List.getElem_cons_succ]
                                go_simp
                                try with_reducible rfl
                              case rest =>
                                try simp only [Act.put, List.setIfInBounds_toArray, List.set_cons_zero, List.set_cons_succ, List.getElem_toArray, List.getElem_cons_zero, List.getElem_cons_succ]
                                refine wpAnyH_take (i := 19) (oi := _) (v := ?_) rfl (by kernel_rfl) (by kernel_rfl) (by kernel_rfl) (fun _ _ _ h => h) (Or.inl ⟨by rfl, ?hy⟩) (by assumption) ?rest
                                case hy =>
                                  intro w9 hSw
                                  try dsimp only at hSw
                                  try simp only [List.getElem_toArray, List.getElem_cons_zero, List.getElem_cons_succ]
                                  go_simp
                                  try with_reducible rfl
                                case rest =>
                                  try simp only [Act.put, List.setIfInBounds_toArray, List.set_cons_zero, List.set_cons_succ, List.getElem_toArray, List.getElem_cons_zero, List.getElem_cons_succ]
                                  refine wpAnyH_take (i := 20) (oi := _) (v := ?_) rfl (by kernel_rfl) (by kernel_rfl) (by kernel_rfl) (fun _ _ _ h => h) (Or.inl ⟨by rfl, ?hy⟩) (by assumption) ?rest
                                  case hy =>
                                    intro w9 hSw
                                    try dsimp only at hSw
                                    try simp only [List.getElem_toArray, List.getElem_cons_zero, List.getElem_cons_succ]
                                    go_simp
                                    try with_reducible rfl
                                  case rest =>
                                    try simp only [Act.put, List.setIfInBounds_toArray, List.set_cons_zero, List.set_cons_succ, List.getElem_toArray, List.getElem_cons_zero, List.getElem_cons_succ]
                                    refine wpAnyH_take (i := 21) (oi := _) (v := ?_) rfl (by kernel_rfl) (by kernel_rfl) (by kernel_rfl) (fun _ _ _ h => h) (Or.inl ⟨by rfl, ?hy⟩) (by assumption) ?rest
                                    case hy =>
                                      intro w9 hSw
                                      try dsimp only at hSw
                                      try simp only [List.getElem_toArray, List.getElem_cons_zero, List.getElem_cons_succ]
                                      go_simp
                                      try with_reducible rfl
                                    case rest =>
                                      try simp only [Act.put, List.setIfInBounds_toArray, List.set_cons_zero, List.set_cons_succ, List.getElem_toArray, List.getElem_cons_zero, List.getElem_cons_succ]
                                      refine wpAnyH_take (i := 22) (oi := _) (v := ?_) rfl (by kernel_rfl) (by kernel_rfl) (by kernel_rfl) (fun _ _ _ h => h) (Or.inl ⟨by rfl, ?hy⟩) (by assumption) ?rest
                                      case hy =>
                                        intro w9 hSw
                                        try dsimp only at hSw
                                        try simp only [List.getElem_toArray, List.getElem_cons_zero, List.getElem_cons_succ]
                                        have q := str_of hSw.2.2.2 Z HZ.out
                                        clear hSw
                                        go_simp
                                        try with_reducible rfl
                                      case rest =>
                                        try simp only [Act.put, List.setIfInBounds_toArray, List.set_cons_zero, List.set_cons_succ, List.getElem_toArray, List.getElem_cons_zero, List.getElem_cons_succ]
                                        refine wpAnyH_take (i := 23) (oi := _) (v := ?_) rfl (by kernel_rfl) (by kernel_rfl) (by kernel_rfl) (fun _ _ _ h => h) (Or.inl ⟨by rfl, ?hy⟩) (by assumption) ?rest
                                        case hy =>
                                          intro w9 hSw
                                          try dsimp only at hSw
                                          try simp only [List.getElem_toArray, List.getElem_cons_zero, List.getElem_cons_succ]
                                          go_simp
                                          try with_reducible rfl
                                        case rest =>
                                          try simp only [Act.put, List.setIfInBounds_toArray, List.set_cons_zero, List.set_cons_succ, List.getElem_toArray, List.getElem_cons_zero, List.getElem_cons_succ]
                                          refine wpAnyH_take (i := 24) (oi := _) (v := ?_) rfl (by kernel_rfl) (by kernel_rfl) (by kernel_rfl) (fun _ _ _ h => h) (Or.inl ⟨by rfl, ?hy⟩) (by assumption) ?rest
                                          case hy =>
                                            intro w9 hSw
                                            try dsimp only at hSw
                                            try simp only [List.getElem_toArray, List.getElem_cons_zero, List.getElem_cons_succ]
                                            have q := strA_of hSw.1 A HA.out
                                            clear hSw
                                            go_simp
                                            try with_reducible rfl
                                          case rest =>
                                            try simp only [Act.put, List.setIfInBounds_toArray, List.set_cons_zero, List.set_cons_succ, List.getElem_toArray, List.getElem_cons_zero, List.getElem_cons_succ]
                                            refine wpAnyH_take (i := 25) (oi := _) (v := ?_) rfl (by kernel_rfl) (by kernel_rfl) (by kernel_rfl) (fun _ _ _ h => h) (Or.inl ⟨by rfl, ?hy⟩) (by assumption) ?rest
                                            case hy =>
                                              intro w9 hSw
                                              try dsimp only at hSw
                                              try simp only [List.getElem_toArray, List.getElem_cons_zero, List.getElem_cons_succ]
                                              have q := E3.out w9
                                              clear hSw
                                              go_simp
                                              try with_reducible rfl
                                            case rest =>
                                              try simp only [Act.put, List.setIfInBounds_toArray, List.set_cons_zero, List.set_cons_succ, List.getElem_toArray, List.getElem_cons_zero, List.getElem_cons_succ]
                                              refine wpAnyH_take (i := 26) (oi := _) (v := ?_) rfl (by kernel_rfl) (by kernel_rfl) (by kernel_rfl) (fun _ _ _ h => h) (Or.inl ⟨by rfl, ?hy⟩) (by assumption) ?rest
                                              case hy =>
                                                intro w9 hSw
                                                try dsimp only at hSw
                                                try simp only [List.getElem_toArray, List.getElem_cons_zero, List.getElem_cons_succ]
                                                go_simp
                                                try with_reducible rfl
                                              case rest =>
                                                try simp only [Act.put, List.setIfInBounds_toArray, List.set_cons_zero, List.set_cons_succ, List.getElem_toArray, List.getElem_cons_zero, List.getElem_cons_succ]
                                                refine wpAnyH_take (i := 27) (oi := _) (v := ?_) rfl (by kernel_rfl) (by kernel_rfl) (by kernel_rfl) (fun _ _ _ h => h) (Or.inl ⟨by rfl, ?hy⟩) (by assumption) ?rest
                                                case hy =>
                                                  intro w9 hSw
                                                  try dsimp only at hSw
                                                  try simp only [List.getElem_toArray, List.getElem_cons_zero, List.getElem_cons_succ]
                                                  go_simp
                                                  try with_reducible rfl
                                                case rest =>
                                                  try simp only [Act.put, List.setIfInBounds_toArray, List.set_cons_zero, List.set_cons_succ, List.getElem_toArray, List.getElem_cons_zero, List.getElem_cons_succ]
                                                  refine wpAnyH_take (i := 28) (oi := _) (v := ?_) rfl (by kernel_rfl) (by kernel_rfl) (by kernel_rfl) (fun _ _ _ h => h) (Or.inl ⟨by rfl, ?hy⟩) (by assumption) ?rest
                                                  case hy =>
                                                    intro w9 hSw
                                                    try dsimp only at hSw
                                                    try simp only [List.getElem_toArray, List.getElem_cons_zero, List.getElem_cons_succ]
                                                    go_simp
                                                    try with_reducible rfl
                                                  case rest =>
                                                    try simp only [Act.put, List.setIfInBounds_toArray, List.set_cons_zero, List.set_cons_succ, List.getElem_toArray, List.getElem_cons_zero, List.getElem_cons_succ]
                                                    refine wpAnyH_done (by kernel_rfl) ?_ _
                                                    go_wp2
                                                    go_ret
                                                    exact ⟨rfl, HB7.out⟩
end Go.Proofs.Ytlmpokkpkglbfaa.binLays
