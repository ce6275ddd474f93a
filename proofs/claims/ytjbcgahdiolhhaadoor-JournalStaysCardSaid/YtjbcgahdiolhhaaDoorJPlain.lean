/- The journal's calls as plain functions on a disk and a journal, and what crashes leave of its file. No Go in this text. -/
import Derived.Test.YtjbcgahdiolhhaaDoorDPlain
import Derived.Test.YtjbcgahdiolhhaaDoorJSpec
namespace Go.Proofs.YtjbcgahdiolhhaaDoor.D2
open Dp Jp

structure Jn where
  file : Int
  l : List (List UInt8)
  bad : Bool
/-- Open: the records, if there is a journal, the error, and the disk. -/
def jopen (D : Dk) (f : Int) : Option (List (List UInt8)) × Int × Dk :=
  if isFile f = false then (none, 1, D)
  else if (D.sync f).1 ≠ 0 then (none, (D.sync f).1, (D.sync f).2)
  else if (forms (recs (D.now f.toNat))).length < (D.now f.toNat).length then
    if ((D.sync f).2.truncate f ((forms (recs (D.now f.toNat))).length : Int)).1 ≠ 0 then (none, ((D.sync f).2.truncate f ((forms (recs (D.now f.toNat))).length : Int)).1, ((D.sync f).2.truncate f ((forms (recs (D.now f.toNat))).length : Int)).2)
    else (some (recs (D.now f.toNat)), 0, ((D.sync f).2.truncate f ((forms (recs (D.now f.toNat))).length : Int)).2)
  else (some (recs (D.now f.toNat)), 0, (D.sync f).2)
def jappend (D : Dk) (J : Jn) (s : List UInt8) : Int × Dk × Jn :=
  if J.bad then (7, D, J)
  else if 20000 < s.length then (3, D, J)
  else if 1048576 < (forms J.l).length + (form s).length then (6, D, J)
  else if (D.write J.file ((forms J.l).length : Int) (form s)).1 ≠ 0 then ((D.write J.file ((forms J.l).length : Int) (form s)).1, (D.write J.file ((forms J.l).length : Int) (form s)).2, { J with bad := true })
  else (0, (D.write J.file ((forms J.l).length : Int) (form s)).2, { J with l := J.l ++ [s] })
def jsync (D : Dk) (J : Jn) : Int × Dk × Jn :=
  if J.bad then (7, D, J)
  else ((D.sync J.file).1, (D.sync J.file).2, { J with bad := decide ((D.sync J.file).1 ≠ 0) })
end Go.Proofs.YtjbcgahdiolhhaaDoor.D2
